/-
  The ledger of the law FnDisk: what came in, what was drawn and answered, read so below; and facts on what a disk answers.
-/
import Derived.Test.YtdllbnlimnahaaaDrawDP
import Derived.Test.YtdllbnlimnahaaaWriteI
import Derived.Test.YtdllbnlimnahaaaRead
import Derived.Test.YtdllbnlimnahaaaCrash
import Derived.Test.YtdllbnlimnahaaaLw
import Derived.Test.YtdllbnlimnahaaaRowIn
import Derived.Test.YtdllbnlimnahaaaLed
namespace Go.Proofs.Ytdllbnlimnahaaa
open Go.ChangeShapes Go.WideShapes Go.ChangeAt Go.RowKit

structure Fd (w W : World) (cv1 : Value) (l1 : Nat) (cv2 : Value) (l2 : Nat) (L : List (Nat × Obj)) (D : List (Value × Dk)) (K : List (Value × List Int)) : Prop where
  bel : Below w.heap.size w W
  blk : ∀ p ∈ L, W.heap[p.1]? = some p.2
  ats : ∀ p ∈ D, DkAt W W.heap.size p.1 p.2
  kps : ∀ p ∈ K, Sl W W.heap.size 1 encI p.1 p.2
  c1 : Code W W.heap.size cv1 l1
  c2 : Code W W.heap.size cv2 l2

variable {w W W' : World} {cv1 cv2 : Value} {l1 l2 : Nat} {L : List (Nat × Obj)} {D : List (Value × Dk)} {K : List (Value × List Int)}

theorem Fd.lift (h : Fd w W cv1 l1 cv2 l2 L D K) (k : Below W.heap.size W W') : Fd w W' cv1 l1 cv2 l2 L D K :=
  ⟨h.bel.trans (k.mono h.bel.size), fun p hp => keep_blk k (h.blk p hp), fun p hp => ((h.ats p hp).below k).more k.size, fun p hp => ((h.kps p hp).below k).more k.size, (h.c1.below k).up k.size, (h.c2.below k).up k.size⟩
theorem Fd.drew (h : Fd w W cv1 l1 cv2 l2 L D K) : Fd w W.drew cv1 l1 cv2 l2 L D K := h.lift (Below.refl W.heap.size W).drew
theorem Fd.drewN (h : Fd w W cv1 l1 cv2 l2 L D K) (n : Nat) : Fd w (W.drewN n) cv1 l1 cv2 l2 L D K := h.lift (below_drewN (Below.refl W.heap.size W) n)
theorem Fd.read (h : Fd w W cv1 l1 cv2 l2 L D K) {v : Value} {d : Dk} (hd : DkAt W W.heap.size v d) : Fd w W cv1 l1 cv2 l2 L ((v, d) :: D) K :=
  ⟨h.bel, h.blk, fun p hp => by
    rcases List.mem_cons.1 hp with rfl | hp
    · exact hd
    · exact h.ats p hp, h.kps, h.c1, h.c2⟩
theorem Fd.keep (h : Fd w W cv1 l1 cv2 l2 L D K) {v : Value} {l : List Int} (hd : Sl W W.heap.size 1 encI v l) : Fd w W cv1 l1 cv2 l2 L D ((v, l) :: K) :=
  ⟨h.bel, h.blk, h.ats, fun p hp => by
    rcases List.mem_cons.1 hp with rfl | hp
    · exact hd
    · exact h.kps p hp, h.c1, h.c2⟩
/-- A box is made. -/
theorem Fd.box (h : Fd w W cv1 l1 cv2 l2 L D K) (o : Obj) : Fd w (W.alloc o) cv1 l1 cv2 l2 ((W.heap.size, o) :: L) D K := by
  have h1 := h.lift ((Below.refl _ W).alloc (Nat.le_refl _) o)
  refine ⟨h1.bel, fun p hp => ?_, h1.ats, h1.kps, h1.c1, h1.c2⟩
  rcases List.mem_cons.1 hp with rfl | hp
  · exact heap_alloc_new _ _
  · exact h1.blk p hp
theorem Fd.at_ (h : Fd w W cv1 l1 cv2 l2 L D K) {v : Value} {d : Dk} (hm : (v, d) ∈ D) : DkAt W W.heap.size v d := h.ats _ hm
theorem Fd.kp (h : Fd w W cv1 l1 cv2 l2 L D K) {v : Value} {l : List Int} (hm : (v, l) ∈ K) : Sl W W.heap.size 1 encI v l := h.kps _ hm
theorem Fd.b2 (h : Fd w W cv1 l1 cv2 l2 L D K) {b : Nat} {x0 x1 : Value} {T : TypeId} (hm : (b, Obj.cells #[x0, x1] T (0, 0)) ∈ L) : W.cell? ⟨b, 0, none⟩ = some x0 ∧ W.cell? ⟨b, 1, none⟩ = some x1 := box2 (h.blk _ hm)
theorem Fd.b4 (h : Fd w W cv1 l1 cv2 l2 L D K) {b : Nat} {x0 x1 x2 x3 : Value} {T : TypeId} (hm : (b, Obj.cells #[x0, x1, x2, x3] T (0, 0)) ∈ L) : W.cell? ⟨b, 0, none⟩ = some x0 ∧ W.cell? ⟨b, 1, none⟩ = some x1 ∧ W.cell? ⟨b, 2, none⟩ = some x2 ∧ W.cell? ⟨b, 3, none⟩ = some x3 := box4 (h.blk _ hm)

/-- The six boxes of the law. -/
theorem Fd.six {D : List (Value × Dk)} {b1 b2 b3 b4 b5 b6 : Nat} {T1 T2 T3 T4 T5 T6 : TypeId} {p0 p1 q0 q1 q2 q3 r0 r1 s0 s1 t0 t1 t2 t3 u0 u1 : Value} (h : Fd w W cv1 l1 cv2 l2 [(b1, .cells #[p0, p1] T1 (0, 0)), (b2, .cells #[q0, q1, q2, q3] T2 (0, 0)), (b3, .cells #[r0, r1] T3 (0, 0)), (b4, .cells #[s0, s1] T4 (0, 0)), (b5, .cells #[t0, t1, t2, t3] T5 (0, 0)), (b6, .cells #[u0, u1] T6 (0, 0))] D K) :
    W.cell? ⟨b1, 0, none⟩ = some p0 ∧ W.cell? ⟨b1, 1, none⟩ = some p1 ∧ W.cell? ⟨b2, 0, none⟩ = some q0 ∧ W.cell? ⟨b2, 1, none⟩ = some q1 ∧ W.cell? ⟨b2, 2, none⟩ = some q2 ∧ W.cell? ⟨b2, 3, none⟩ = some q3 ∧ W.cell? ⟨b3, 0, none⟩ = some r0 ∧ W.cell? ⟨b3, 1, none⟩ = some r1 ∧ W.cell? ⟨b4, 0, none⟩ = some s0 ∧ W.cell? ⟨b4, 1, none⟩ = some s1 ∧ W.cell? ⟨b5, 0, none⟩ = some t0 ∧ W.cell? ⟨b5, 1, none⟩ = some t1 ∧ W.cell? ⟨b5, 2, none⟩ = some t2 ∧ W.cell? ⟨b5, 3, none⟩ = some t3 ∧ W.cell? ⟨b6, 0, none⟩ = some u0 ∧ W.cell? ⟨b6, 1, none⟩ = some u1 := by
  have h1 := h.b2 List.mem_cons_self
  have h2 := h.b4 (List.mem_cons_of_mem _ List.mem_cons_self)
  have h3 := h.b2 (List.mem_cons_of_mem _ (List.mem_cons_of_mem _ List.mem_cons_self))
  have h4 := h.b2 (List.mem_cons_of_mem _ (List.mem_cons_of_mem _ (List.mem_cons_of_mem _ List.mem_cons_self)))
  have h5 := h.b4 (List.mem_cons_of_mem _ (List.mem_cons_of_mem _ (List.mem_cons_of_mem _ (List.mem_cons_of_mem _ List.mem_cons_self))))
  have h6 := h.b2 (List.mem_cons_of_mem _ (List.mem_cons_of_mem _ (List.mem_cons_of_mem _ (List.mem_cons_of_mem _ (List.mem_cons_of_mem _ List.mem_cons_self)))))
  exact ⟨h1.1, h1.2, h2.1, h2.2.1, h2.2.2.1, h2.2.2.2, h3.1, h3.2, h4.1, h4.2, h5.1, h5.2.1, h5.2.2.1, h5.2.2.2, h6.1, h6.2⟩
theorem Fd.tail {x : Nat × Obj} {y : Value × Dk} (h : Fd w W cv1 l1 cv2 l2 (x :: L) (y :: D) K) : Fd w W cv1 l1 cv2 l2 L D K :=
  ⟨h.bel, fun p hp => h.blk p (List.mem_cons_of_mem _ hp), fun p hp => h.ats p (List.mem_cons_of_mem _ hp), h.kps, h.c1, h.c2⟩
theorem DkAt.rows {B : Nat} {s p : Value} {d : Dk} (h : DkAt W B (.agg #[s, p]) d) : Sl W B 1 encS s d.S ∧ Sl W B 2 encP p d.P := by
  obtain ⟨_, _, e, a, b⟩ := h
  simp only [Value.agg.injEq, Array.mk.injEq, List.cons.injEq, and_true] at e
  obtain ⟨rfl, rfl⟩ := e
  exact ⟨a, b⟩
theorem flushS_noP (S : List ByteArray) (kl : List Int) : flushS S (kept [] kl) = S := flushS_nil S
/-- What a write answers. -/
theorem write_drawn {d : Dk} (h : Drawn d) (a : Int) (t : ByteArray) : (writeDo d a t).dk.S.length ≤ 1048576 ∧ (writeDo d a t).dk.P.length ≤ 1048576 ∧ ((writeDo d a t).code = 0 → Right (writeDo d a t).dk) := by
  obtain ⟨h1, h2, h3, h4, h5⟩ := h
  have hw := write_good d a t
  classical
  refine ⟨?_, ?_, hw⟩
  · unfold writeDo
    repeat' split
    all_goals simp [illDo]
    omega
  · unfold writeDo
    repeat' split
    all_goals simp [illDo]
    omega
theorem flush_drawn {d : Dk} (h : Drawn d) : (flushDo d).dk.S.length ≤ 1048576 ∧ (flushDo d).dk.P.length ≤ 1048576 ∧ ((flushDo d).code = 0 → Right (flushDo d).dk) := by
  obtain ⟨h1, h2, h3, h4, h5⟩ := h
  refine ⟨?_, ?_, flush_good d⟩
  · by_cases hR : Right d
    · rw [flush_ok hR]; simp only [flushS_len]; omega
    · rw [flush_form hR]; simp [illDo]
  · by_cases hR : Right d
    · rw [flush_ok hR]; simp
    · rw [flush_form hR]; simp [illDo]
theorem read_drawn {d : Dk} (h : Drawn d) (a : Int) : (readDo d a).dk.S.length ≤ 1048576 ∧ (readDo d a).dk.P.length ≤ 1048576 ∧ ((readDo d a).code = 0 → Right (readDo d a).dk) := by
  obtain ⟨h1, h2, h3, h4, h5⟩ := h
  by_cases hR : Right d
  · by_cases hA : 0 ≤ a ∧ a < d.S.length
    · rw [read_ok hR hA]; exact ⟨by simp only; omega, by simp only; omega, fun _ => hR⟩
    · rw [read_range hR hA]; exact ⟨by simp [illDo], by simp [illDo], fun e => by cases e⟩
  · rw [read_form hR]; exact ⟨by simp [illDo], by simp [illDo], fun e => by cases e⟩
theorem crash_drawn {d : Dk} (h : Drawn d) (kl : List Int) : (crashDk d kl).S.length ≤ 1048576 ∧ (crashDk d kl).P.length ≤ 1048576 := by
  obtain ⟨h1, h2, h3, h4, h5⟩ := h
  by_cases hk : 400 < kl.length
  · rw [crash_size hk]; simp
  · by_cases hR : Right d
    · rw [crash_ok hk hR]; simp only [flushS_len]; exact ⟨by omega, by simp⟩
    · rw [crash_form hk hR]; exact ⟨by omega, by omega⟩
theorem new_drawn (n : Int) : (newDk n).S.length ≤ 1048576 ∧ (newDk n).P.length ≤ 1048576 := by
  by_cases h : 1 ≤ n ∧ n ≤ 64
  · rw [newDk_yes n h]; simp; omega
  · rw [newDk_no n h]; simp
theorem field_data (A1 : Option Addr) (n1 c1 : Nat) (A2 : Option Addr) (n2 c2 : Nat) (t : ByteArray) (x : Int) (W : World) : (Instr.field 30 (.agg #[.slice A1 n1 c1, .slice A2 n2 c2, .string t, .int .i64 x]) 1).run Try.prog W = .ok (.string t) W := by kernel_rfl

theorem read_at {d : Dk} (h : Right d) (k : Nat) (hk : k < d.S.length) : readDo d (k : Int) = ⟨d, readT d k, 0⟩ := read_ok (a := (k : Int)) h ⟨by omega, by omega⟩
theorem toList_inj {a b : ByteArray} (h : a.toList = b.toList) : a = b := by
  rw [ByteArray.toList_eq, ByteArray.toList_eq] at h
  cases a; cases b
  simp only [ByteArray.mk.injEq]
  exact Array.toList_inj.1 h
theorem none_more {P : List Pd} {p : Nat} {x y : Pd} (h : ∀ i : Nat, i < p → ¬ P[i]? = some y) (hp : P[p]? = some x) (hx : ¬ x = y) : ∀ i : Nat, i < p + 1 → ¬ P[i]? = some y := fun i hi => by
  by_cases e : i = p
  · subst e
    rw [hp]
    exact fun e => hx (Option.some.inj e)
  · exact h i (by omega)
/-- Written, it is read; no other sector reads as another one. -/
theorem write_read {d : Dk} {a : Int} {t : ByteArray} (h : (writeDo d a t).code = 0) : Right d ∧ Right (writeDo d a t).dk ∧ (writeDo d a t).dk.S.length = d.S.length ∧ ∀ k : Nat, readT (writeDo d a t).dk k = if (k : Int) = a then t else readT d k := by
  have hw := write_good d a t h
  by_cases h8 : 8000 < t.size
  · rw [write_size h8] at h; cases h
  · by_cases hR : Right d ∧ t.size ≤ 64
    · by_cases hA : 0 ≤ a ∧ a < d.S.length
      · by_cases hf : d.P.length = 200
        · rw [write_full hR.1 hR.2 hA hf] at h; cases h
        · refine ⟨hR.1, hw, ?_, fun k => ?_⟩
          · rw [write_ok hR.1 hR.2 hA hf]
          · rw [write_ok hR.1 hR.2 hA hf]
            unfold readT
            simp only [lastOf_snoc]
            by_cases hk : a = (k : Int)
            · rw [if_pos hk, if_pos hk.symm]; rfl
            · rw [if_neg hk, if_neg (fun e => hk e.symm)]
      · rw [write_range hR.1 hR.2 hA] at h; cases h
    · rw [write_form h8 hR] at h; cases h
theorem flush_read {d : Dk} (h : (flushDo d).code = 0) : Right d ∧ Right (flushDo d).dk ∧ (flushDo d).dk.S.length = d.S.length ∧ (flushDo d).dk.P = [] ∧ ∀ k : Nat, k < d.S.length → readT (flushDo d).dk k = readT d k := by
  have hw := flush_good d h
  by_cases hR : Right d
  · refine ⟨hR, hw, ?_, ?_, fun k hk => ?_⟩
    · rw [flush_ok hR]; exact flushS_len _ _
    · rw [flush_ok hR]
    · rw [flush_ok hR]
      unfold readT
      simp only [lastOf_nil, Option.getD_none]
      rw [List.getD_eq_getElem?_getD, flushS_get _ _ k hk, Option.getD_some, List.getD_eq_getElem?_getD, List.getElem?_eq_getElem hk, Option.getD_some]
  · rw [flush_form hR] at h; cases h
theorem crash_flushed {d : Dk} {kl : List Int} (hR : Right d) (hP : d.P = []) (hk : ¬ 400 < kl.length) : crashDk d kl = d := by
  rw [crash_ok hk hR, hP]
  obtain ⟨S, P⟩ := d
  simp only at hP
  subst hP
  rw [flushS_noP]
/-- A crash leaves of each sector what was flushed, or something that was written since. -/
theorem crash_some {d : Dk} {kl : List Int} (hR : Right d) (hk : ¬ 400 < kl.length) : (crashDk d kl).P = [] ∧ (crashDk d kl).S.length = d.S.length ∧ ∀ (k : Nat) (s t : ByteArray), d.S[k]? = some s → (crashDk d kl).S[k]? = some t → t = s ∨ ∃ j : Nat, d.P[j]? = some ((k : Int), t) := by
  rw [crash_ok hk hR]
  refine ⟨rfl, flushS_len _ _, fun k s t hs ht => ?_⟩
  have hk' : k < d.S.length := (List.getElem?_eq_some_iff.1 hs).1
  simp only [flushS_get _ _ k hk', Option.some.injEq] at ht
  rw [(List.getElem?_eq_some_iff.1 hs).2] at ht
  cases hl : lastOf (kept d.P kl) (k : Int) with
  | none => rw [hl] at ht; exact .inl ht.symm
  | some u =>
    rw [hl] at ht
    have hu : u = t := ht
    subst hu
    have hm := kept_mem _ _ _ (lastOf_mem _ _ _ hl)
    obtain ⟨j, hj, e⟩ := List.getElem_of_mem hm
    exact .inr ⟨j, by rw [List.getElem?_eq_getElem hj, e]⟩

end Go.Proofs.Ytdllbnlimnahaaa
