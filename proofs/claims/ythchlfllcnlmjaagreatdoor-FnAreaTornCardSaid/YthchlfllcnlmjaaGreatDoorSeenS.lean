/-
  Contract of the model's l03Seen.
-/
import Derived.Test.YthchlfllcnlmjaaGreatDoorHeadM
import Derived.Test.YthchlfllcnlmjaaGreatDoorReadS
import Derived.Test.YthchlfllcnlmjaaGreatDoorGetNumS
import Derived.Test.YthchlfllcnlmjaaGreatDoorUnseal
import Derived.Test.YthchlfllcnlmjaaGreatDoorFormatS
import Derived.Test.YthchlfllcnlmjaaGreatDoorBase2
import Derived.Deep.QuietTactic
namespace Go.Proofs.YthchlfllcnlmjaaGreatDoor
open Go.ChangeShapes Go.WideShapes Go.ChangeAt Go.RowKit

theorem read_at0 {d : Dk} (h : Right d) (k : Nat) (hk : k < d.S.length) : readDo d (k : Int) = ⟨d, readT d k, 0⟩ := read_ok (a := (k : Int)) h ⟨by omega, by omega⟩
theorem field_text (A1 : Option Addr) (n1 c1 : Nat) (A2 : Option Addr) (n2 c2 : Nat) (t : ByteArray) (x : Int) (W : World) : (Instr.field 68 (.agg #[.slice A1 n1 c1, .slice A2 n2 c2, .string t, .int .i64 x]) 1).run Tryz.prog W = .ok (.string t) W := by kernel_rfl
theorem readT_size {d : Dk} (h : Right d) (k : Nat) (hk : k < d.S.length) : (readT d k).size ≤ 64 := by
  obtain ⟨_, _, _, h4, h5⟩ := h
  unfold readT
  cases hl : lastOf d.P (k : Int) with
  | some t => exact (h5 _ (lastOf_mem _ _ _ hl)).2.2
  | none =>
    rw [Option.getD_none, List.getD_eq_getElem?_getD, List.getElem?_eq_getElem hk, Option.getD_some]
    exact h4 _ (List.getElem_mem hk)
theorem led_one (w : World) (o1 : Obj) {v : Value} {d : Dk} (hv : DkAt w w.heap.size v d) : Led w (w.alloc o1) [(w.heap.size, o1)] [(w.heap.size, v, d)] [] := by
  have h0 : Led w w [] [(w.heap.size, v, d)] [] := ⟨Below.refl _ _, by simp, fun p hp => by rw [List.mem_singleton.1 hp]; exact ⟨Nat.le_refl _, hv⟩, by simp⟩
  exact h0.alloc o1
theorem Led.b3 {w W : World} {L : List (Nat × Obj)} {D O : List (Nat × Value × Dk)} (h : Led w W L D O) {b : Nat} {x0 x1 x2 : Value} {T : TypeId} (hm : (b, Obj.cells #[x0, x1, x2] T (0, 0)) ∈ L) : W.cell? ⟨b, 0, none⟩ = some x0 ∧ W.cell? ⟨b, 1, none⟩ = some x1 ∧ W.cell? ⟨b, 2, none⟩ = some x2 ∧ b < W.heap.size := by
  obtain ⟨h1, h2, h3⟩ := box3 (h.blk _ hm)
  exact ⟨h1, h2, h3, block_lt (h.blk _ hm)⟩
theorem getNum_at (s : ByteArray) (a : Int) : I64 (getNum s a).1 ∧ I64 (getNum s a).2.1 := by
  rcases getNum_shape s a with ⟨u, p, hu, hp, hg, h8, _, _, _⟩ | ⟨c, _, _, hg, _⟩
  · rw [hg]
    have := unf_bd hu
    exact ⟨this, by unfold I64; simp only; omega⟩
  · rw [hg]
    exact ⟨by unfold I64; simp only; omega, by unfold I64; simp only; omega⟩

theorem bytes_same {a b : ByteArray} (h : a.toList = b.toList) : a = b := by
  rw [ByteArray.toList_eq, ByteArray.toList_eq] at h
  cases a; cases b
  simp only [ByteArray.mk.injEq]
  exact Array.toList_inj.1 h
def Seen (w : World) (r : Int × Int × Int × Int) (e : Ending) (w' : World) : Prop := e = .returned (.tuple #[.int .i64 r.1, .int .i64 r.2.1, .int .i64 r.2.2.1, .int .i64 r.2.2.2]) ∧ Below w.heap.size w w'

set_option maxRecDepth 100000 in
/-- The first sector is no seal. -/
theorem seen_bad (v : Value) (d : Dk) (t : ByteArray) (c : Int) (w : World) (hv : DkAt w w.heap.size v d) (hR : Right d) (hU : ∀ W : World, Calls Tryz.prog 87 #[.string (readT d 0)] W fun e w' => e = .returned (textOut t 0 c) ∧ Below W.heap.size W w') (hc : ¬ c = 0) :
    Calls Tryz.prog 47 #[v] w (Seen w (0, 0, 0, c)) := by
  obtain ⟨vs, vp, rfl, hs, hp⟩ := hv
  obtain ⟨A1, c1, rfl⟩ := hs.form
  obtain ⟨A2, c2, rfl⟩ := hp.form
  have HL := Lib.hid (led_one w (.cells #[.slice A1 d.S.length c1, .slice A2 d.P.length c2] 26) (d := d) ⟨_, _, rfl, hs, hp⟩)
  have HR := Lib.hid hR
  have HU := Lib.hid hU
  have hn : 0 < d.S.length := hR.1
  have HR0 := Lib.hid (show readDo d (0 : Int) = ⟨d, readT d 0, 0⟩ from read_at0 hR 0 hn)
  clear hs hp hR hU
  go_enter Tryz.func47, Tryz.ntmps47
  go_wp2_with fail
  with_reducible refine (spec_read _ d 0 _ (HL.out.at_ List.mem_cons_self) (right_small' HR.out)).mono ?_
  intro e w1 h
  rw [HR0.out] at h
  obtain ⟨B1, e1, B2, e2, rfl, ho, hb⟩ := h.parts
  replace HL := Lib.hid (HL.out.lift hb)
  clear h ho hb
  have hfd := fun W => field_text B1 d.S.length e1 B2 d.P.length e2 (readT d 0) 0 W
  dsimp only
  go_wp2_with fail
  refine (HU.out _).mono ?_
  rintro e w2 ⟨rfl, hb⟩
  replace HL := Lib.hid ((HL.out.lift hb).alloc (.cells #[.string t, .int .i64 0, .int .i64 c] 103))
  clear hb hfd
  unfold textOut
  obtain ⟨y0, y1, y2, yl⟩ := HL.out.b3 List.mem_cons_self
  go_wp2
  go_quiet (fail)
  go_wp2
  exact bodyPost_ret (v := .tuple #[.int .i64 0, .int .i64 0, .int .i64 0, .int .i64 c]) (by simp [results, Tryz.results47, go_sem]) rfl ⟨rfl, below_drewN' HL.out.bel _⟩

theorem Led.seen {w W : World} {D O : List (Nat × Value × Dk)} {b1 b2 b3 b4 b5 : Nat} {T1 T2 T3 T4 T5 : TypeId} {x0 x1 x2 y0 y1 y2 z0 z1 z2 u0 u1 u2 p q : Value} (h : Led w W [(b1, .cells #[x0, x1, x2] T1 (0, 0)), (b2, .cells #[y0, y1, y2] T2 (0, 0)), (b3, .cells #[z0, z1, z2] T3 (0, 0)), (b4, .cells #[u0, u1, u2] T4 (0, 0)), (b5, .cells #[p, q] T5 (0, 0))] D O) :
    W.cell? ⟨b1, 0, none⟩ = some x0 ∧ W.cell? ⟨b1, 1, none⟩ = some x1 ∧ W.cell? ⟨b1, 2, none⟩ = some x2 ∧ W.cell? ⟨b2, 0, none⟩ = some y0 ∧ W.cell? ⟨b2, 1, none⟩ = some y1 ∧ W.cell? ⟨b2, 2, none⟩ = some y2 ∧ W.cell? ⟨b3, 0, none⟩ = some z0 ∧ W.cell? ⟨b3, 1, none⟩ = some z1 ∧ W.cell? ⟨b3, 2, none⟩ = some z2 ∧ W.cell? ⟨b5, 0, none⟩ = some p ∧ W.cell? ⟨b5, 1, none⟩ = some q := by
  have h1 := h.b3 List.mem_cons_self
  have h2 := h.b3 (List.mem_cons_of_mem _ List.mem_cons_self)
  have h3 := h.b3 (List.mem_cons_of_mem _ (List.mem_cons_of_mem _ List.mem_cons_self))
  have h5 := h.b2 (List.mem_cons_of_mem _ (List.mem_cons_of_mem _ (List.mem_cons_of_mem _ (List.mem_cons_of_mem _ List.mem_cons_self))))
  exact ⟨h1.1, h1.2.1, h1.2.2.1, h2.1, h2.2.1, h2.2.2.1, h3.1, h3.2.1, h3.2.2.1, h5.1, h5.2.1⟩

/-- The numbers of a head, held against its sector. -/
def Heads (r : ByteArray) (room : Int) (g s n : Int × Int × Int) : Prop := g.2.2 = 0 ∧ s.2.2 = 0 ∧ n.2.2 = 0 ∧ headB g.1 s.1 n.1 = r ∧ 0 ≤ g.1 ∧ (0 ≤ s.1 ∧ s.1 ≤ 1) ∧ (0 ≤ n.1 ∧ n.1 ≤ room)

set_option maxRecDepth 100000 in
set_option maxHeartbeats 4000000 in
theorem seen_good (v : Value) (d : Dk) (t : ByteArray) (w : World) (g1 g2 g3 s1 s2 s3 n1 n2 n3 : Int) (r : Int × Int × Int × Int) (hv : DkAt w w.heap.size v d) (hR : Right d) (hU : ∀ W : World, Calls Tryz.prog 87 #[.string (readT d 0)] W fun e w' => e = .returned (textOut t 0 0) ∧ Below W.heap.size W w') (ht : t.size ≤ 64)
    (hg : getNum t 0 = (g1, g2, g3)) (hs : getNum t g2 = (s1, s2, s3)) (hn : getNum t s2 = (n1, n2, n3)) (hy : Heads (readT d 0) (64 * halfN d : Nat) (g1, g2, g3) (s1, s2, s3) (n1, n2, n3) → r = (g1, s1, n1, 0)) (hno : ¬ Heads (readT d 0) (64 * halfN d : Nat) (g1, g2, g3) (s1, s2, s3) (n1, n2, n3) → r = (0, 0, 0, 3)) :
    Calls Tryz.prog 47 #[v] w (Seen w r) := by
  have ig := getNum_at t 0; have is_ := getNum_at t g2; have in_ := getNum_at t s2
  rw [hg] at ig; rw [hs] at is_; rw [hn] at in_
  have HG1 := Lib.hid ig.2; have HG2 := Lib.hid is_.2
  have HI := Lib.hid (show I64 g1 ∧ I64 s1 ∧ I64 n1 from ⟨ig.1, is_.1, in_.1⟩)
  have Hg := Lib.hid hg; have Hs := Lib.hid hs; have Hn := Lib.hid hn
  have HT := Lib.hid (show t.size ≤ maxLen by unfold maxLen; omega)
  have HY := Lib.hid hy; have HNO := Lib.hid hno
  clear ig is_ in_ hg hs hn hy hno
  obtain ⟨vs, vp, rfl, hs', hp⟩ := hv
  obtain ⟨A1, c1, rfl⟩ := hs'.form
  obtain ⟨A2, c2, rfl⟩ := hp.form
  have HL := Lib.hid (led_one w (.cells #[.slice A1 d.S.length c1, .slice A2 d.P.length c2] 26) (d := d) ⟨_, _, rfl, hs', hp⟩)
  have HR := Lib.hid hR
  have HU := Lib.hid hU
  have hn0 : 0 < d.S.length := hR.1
  have HR0 := Lib.hid (show readDo d (0 : Int) = ⟨d, readT d 0, 0⟩ from read_at0 hR 0 hn0)
  clear hs' hp hR hU
  go_enter Tryz.func47, Tryz.ntmps47
  go_wp2_with fail
  with_reducible refine (spec_read _ d 0 _ (HL.out.at_ List.mem_cons_self) (right_small' HR.out)).mono ?_
  intro e w1 h
  rw [HR0.out] at h
  obtain ⟨B1, e1, B2, e2, rfl, ho, hb⟩ := h.parts
  replace HL := Lib.hid (HL.out.lift hb)
  clear h ho hb
  have hfd := fun W => field_text B1 d.S.length e1 B2 d.P.length e2 (readT d 0) 0 W
  dsimp only
  go_wp2_with fail
  refine (HU.out _).mono ?_
  rintro e w2 ⟨rfl, hb⟩
  replace HL := Lib.hid ((HL.out.lift hb).alloc (.cells #[.string t, .int .i64 0, .int .i64 0] 103))
  clear hb hfd
  unfold textOut
  obtain ⟨y0, y1, y2, yl⟩ := HL.out.b3 List.mem_cons_self
  go_wp2_with fail
  refine (spec_getnum t 0 _ HT.out (by decide) (by decide)).mono ?_
  rintro e w3 ⟨rfl, hb⟩
  rw [Hg.out]
  unfold numOut
  dsimp only
  replace HL := Lib.hid ((HL.out.lift hb).alloc (.cells #[.int .i64 g1, .int .i64 g2, .int .i64 g3] 116))
  clear hb y0 y1 y2 yl
  obtain ⟨y0, y1, y2, yl⟩ := HL.out.b3 (List.mem_cons_of_mem _ List.mem_cons_self)
  obtain ⟨q0, q1, q2, ql⟩ := HL.out.b3 List.mem_cons_self
  go_wp2_with fail
  refine (spec_getnum t g2 _ HT.out HG1.out.1 HG1.out.2).mono ?_
  rintro e w4 ⟨rfl, hb⟩
  rw [Hs.out]
  unfold numOut
  dsimp only
  replace HL := Lib.hid ((HL.out.lift hb).alloc (.cells #[.int .i64 s1, .int .i64 s2, .int .i64 s3] 116))
  clear hb y0 y1 y2 yl q0 q1 q2 ql
  obtain ⟨y0, y1, y2, yl⟩ := HL.out.b3 (List.mem_cons_of_mem _ (List.mem_cons_of_mem _ List.mem_cons_self))
  obtain ⟨q0, q1, q2, ql⟩ := HL.out.b3 List.mem_cons_self
  go_wp2_with fail
  refine (spec_getnum t s2 _ HT.out HG2.out.1 HG2.out.2).mono ?_
  rintro e w5 ⟨rfl, hb⟩
  rw [Hn.out]
  unfold numOut
  dsimp only
  replace HL := Lib.hid ((HL.out.lift hb).alloc (.cells #[.int .i64 n1, .int .i64 n2, .int .i64 n3] 116))
  clear hb y0 y1 y2 yl q0 q1 q2 ql
  have HN := Lib.hid (show 1 ≤ d.S.length ∧ d.S.length ≤ 64 from ⟨HR.out.1, HR.out.2.1⟩)
  have hm1 : IntKind.i64.wrap (64 * (((d.S.length - 1) / 2 : Nat) : Int)) = 64 * (((d.S.length - 1) / 2 : Nat) : Int) := by
    have := HR.out.2.1
    exact IntWalk.i64_in _ (by omega)
  by_cases hg3 : g3 = 0
  · by_cases hs3 : s3 = 0
    · by_cases hn3 : n3 = 0
      · subst hg3 hs3 hn3
        have hnl := HR.out.2.1
        obtain ⟨hf, hfe⟩ : ∃ x : Int, x = (((d.S.length - 1) / 2 : Nat) : Int) := ⟨_, rfl⟩
        rw [← hfe] at hm1
        have HF := Lib.hid hfe
        clear hfe
        by_cases hh : headB g1 s1 n1 = readT d 0
        · have hhb : ((headB g1 s1 n1).toList != (readT d 0).toList) = false := by simp [hh]
          have hhc : ((headB g1 s1 n1).toList == (readT d 0).toList) = true := by simp [hh]
          by_cases hg1 : g1 < 0
          · have HE := Lib.hid (HNO.out (fun h => by have := h.2.2.2.2.1; simp only at this; omega))
            have hgb : decide (g1 < 0) = true := by simp [hg1]
            clear hh
            go_upto_region 7 with fail
            refine wp_region_calm_led (told [(20, fun u => u = .string (headB g1 s1 n1)), (22, fun u => ∃ B1 e1 B2 e2, u = .agg #[.slice B1 d.S.length e1, .slice B2 d.P.length e2, .string (readT d 0), .int .i64 0]), (34, fun u => u = .bool true), (41, fun u => u = .int .i64 hf), (43, fun u => u = .bool true)]) (by kernel_rfl) (by kernel_rfl) (told_mono _) HL.out ?_
            repeat (first
              | (refine calm_skip (by rfl) ?_; try simp only [Act.put, List.setIfInBounds_toArray, List.set_cons_zero, List.set_cons_succ])
              | (refine calm_plain (by rfl) (by rfl) ?_; apply Exists.intro; refine ⟨fun wc hC hD => ?_, ?_⟩; (focus (clear hD; obtain ⟨c0, c1, c2, c3, c4, c5, c6, c7, c8, c9, c10⟩ := hC.seen; clear hC; go_simp; first | done | with_reducible rfl)); try simp only [Act.put, List.setIfInBounds_toArray, List.set_cons_zero, List.set_cons_succ]))
            refine calm_call _ _ (by rfl) (by rfl) ?_ ?_
            focus
              apply Exists.intro
              apply Exists.intro
              refine ⟨fun wc hC hD => ?_, fun wc hC hD => ?_⟩
              focus (clear hD; obtain ⟨c0, c1, c2, c3, c4, c5, c6, c7, c8, c9, c10⟩ := hC.seen; clear hC; go_simp; first | done | with_reducible exact ⟨rfl, rfl⟩)
              clear hD
              with_reducible refine (spec_head g1 s1 n1 _ HI.out.1 HI.out.2.1 HI.out.2.2).mono ?_
              rintro e wx ⟨rfl, hb⟩
              exact ⟨_, rfl, hb, rfl, trivial⟩
            rintro _ rfl
            try simp only [Act.put, List.setIfInBounds_toArray, List.set_cons_zero, List.set_cons_succ]
            repeat (first
              | (refine calm_skip (by rfl) ?_; try simp only [Act.put, List.setIfInBounds_toArray, List.set_cons_zero, List.set_cons_succ])
              | (refine calm_plain (by rfl) (by rfl) ?_; apply Exists.intro; refine ⟨fun wc hC hD => ?_, ?_⟩; (focus (clear hD; obtain ⟨c0, c1, c2, c3, c4, c5, c6, c7, c8, c9, c10⟩ := hC.seen; clear hC; go_simp; first | done | with_reducible rfl)); try simp only [Act.put, List.setIfInBounds_toArray, List.set_cons_zero, List.set_cons_succ]))
            refine calm_call _ _ (by rfl) (by rfl) ?_ ?_
            focus
              apply Exists.intro
              apply Exists.intro
              refine ⟨fun wc hC hD => ?_, fun wc hC hD => ?_⟩
              focus (clear hD; obtain ⟨c0, c1, c2, c3, c4, c5, c6, c7, c8, c9, c10⟩ := hC.seen; clear hC; go_simp; first | done | with_reducible exact ⟨rfl, rfl⟩)
              clear hD
              with_reducible refine (spec_read _ d 0 _ (hC.at_ List.mem_cons_self) (right_small' HR.out)).mono ?_
              intro e wx h
              rw [HR0.out] at h
              obtain ⟨B1, e1, B2, e2, rfl, ho, hb⟩ := h.parts
              exact ⟨_, rfl, hb, ⟨_, _, _, _, rfl⟩, trivial⟩
            rintro _ ⟨B1, e1, B2, e2, rfl⟩
            have hfd := (fun W => field_text B1 d.S.length e1 B2 d.P.length e2 (readT d 0) 0 W)
            try simp only [Act.put, List.setIfInBounds_toArray, List.set_cons_zero, List.set_cons_succ]
            repeat (first
              | (refine calm_skip (by rfl) ?_; try simp only [Act.put, List.setIfInBounds_toArray, List.set_cons_zero, List.set_cons_succ])
              | (refine calm_plain (by rfl) (by rfl) ?_; apply Exists.intro; refine ⟨fun wc hC hD => ?_, ?_⟩; (focus (clear hD; obtain ⟨c0, c1, c2, c3, c4, c5, c6, c7, c8, c9, c10⟩ := hC.seen; clear hC; go_simp; first | done | with_reducible rfl)); try simp only [Act.put, List.setIfInBounds_toArray, List.set_cons_zero, List.set_cons_succ]))
            refine calm_end ?_
            intro w7 hL7 hF7
            clear hF7
            replace HL := Lib.hid hL7
            clear hL7
            obtain ⟨c0, c1, c2, c3, c4, c5, c6, c7, c8, c9, c10⟩ := HL.out.seen
            go_wp2
            refine bodyPost_ret (v := .tuple #[.int .i64 0, .int .i64 0, .int .i64 0, .int .i64 3]) (by simp [results, Tryz.results47, go_sem]) rfl ?_
            exact ⟨by rw [HE.out], HL.out.bel⟩
          · have hgb : decide (g1 < 0) = false := by simp [hg1]
            by_cases hs1 : 0 ≤ s1 ∧ s1 ≤ 1
            · by_cases hn1 : 0 ≤ n1 ∧ n1 ≤ 64 * hf
              · have HE := Lib.hid (HY.out ⟨rfl, rfl, rfl, hh, by simp only; omega, hs1, hn1.1, by have := hn1.2; have := HF.out; simp only [halfN]; omega⟩)
                clear hh
                go_upto_region 7 with fail
                refine wp_region_calm_led (told [(20, fun u => u = .string (headB g1 s1 n1)), (22, fun u => ∃ B1 e1 B2 e2, u = .agg #[.slice B1 d.S.length e1, .slice B2 d.P.length e2, .string (readT d 0), .int .i64 0]), (34, fun u => u = .bool true), (41, fun u => u = .int .i64 hf), (43, fun u => u = .bool true)]) (by kernel_rfl) (by kernel_rfl) (told_mono _) HL.out ?_
                repeat (first
                  | (refine calm_skip (by rfl) ?_; try simp only [Act.put, List.setIfInBounds_toArray, List.set_cons_zero, List.set_cons_succ])
                  | (refine calm_plain (by rfl) (by rfl) ?_; apply Exists.intro; refine ⟨fun wc hC hD => ?_, ?_⟩; (focus (clear hD; obtain ⟨c0, c1, c2, c3, c4, c5, c6, c7, c8, c9, c10⟩ := hC.seen; clear hC; go_simp; first | done | with_reducible rfl)); try simp only [Act.put, List.setIfInBounds_toArray, List.set_cons_zero, List.set_cons_succ]))
                refine calm_call _ _ (by rfl) (by rfl) ?_ ?_
                focus
                  apply Exists.intro
                  apply Exists.intro
                  refine ⟨fun wc hC hD => ?_, fun wc hC hD => ?_⟩
                  focus (clear hD; obtain ⟨c0, c1, c2, c3, c4, c5, c6, c7, c8, c9, c10⟩ := hC.seen; clear hC; go_simp; first | done | with_reducible exact ⟨rfl, rfl⟩)
                  clear hD
                  with_reducible refine (spec_head g1 s1 n1 _ HI.out.1 HI.out.2.1 HI.out.2.2).mono ?_
                  rintro e wx ⟨rfl, hb⟩
                  exact ⟨_, rfl, hb, rfl, trivial⟩
                rintro _ rfl
                try simp only [Act.put, List.setIfInBounds_toArray, List.set_cons_zero, List.set_cons_succ]
                repeat (first
                  | (refine calm_skip (by rfl) ?_; try simp only [Act.put, List.setIfInBounds_toArray, List.set_cons_zero, List.set_cons_succ])
                  | (refine calm_plain (by rfl) (by rfl) ?_; apply Exists.intro; refine ⟨fun wc hC hD => ?_, ?_⟩; (focus (clear hD; obtain ⟨c0, c1, c2, c3, c4, c5, c6, c7, c8, c9, c10⟩ := hC.seen; clear hC; go_simp; first | done | with_reducible rfl)); try simp only [Act.put, List.setIfInBounds_toArray, List.set_cons_zero, List.set_cons_succ]))
                refine calm_call _ _ (by rfl) (by rfl) ?_ ?_
                focus
                  apply Exists.intro
                  apply Exists.intro
                  refine ⟨fun wc hC hD => ?_, fun wc hC hD => ?_⟩
                  focus (clear hD; obtain ⟨c0, c1, c2, c3, c4, c5, c6, c7, c8, c9, c10⟩ := hC.seen; clear hC; go_simp; first | done | with_reducible exact ⟨rfl, rfl⟩)
                  clear hD
                  with_reducible refine (spec_read _ d 0 _ (hC.at_ List.mem_cons_self) (right_small' HR.out)).mono ?_
                  intro e wx h
                  rw [HR0.out] at h
                  obtain ⟨B1, e1, B2, e2, rfl, ho, hb⟩ := h.parts
                  exact ⟨_, rfl, hb, ⟨_, _, _, _, rfl⟩, trivial⟩
                rintro _ ⟨B1, e1, B2, e2, rfl⟩
                have hfd := (fun W => field_text B1 d.S.length e1 B2 d.P.length e2 (readT d 0) 0 W)
                try simp only [Act.put, List.setIfInBounds_toArray, List.set_cons_zero, List.set_cons_succ]
                repeat (first
                  | (refine calm_skip (by rfl) ?_; try simp only [Act.put, List.setIfInBounds_toArray, List.set_cons_zero, List.set_cons_succ])
                  | (refine calm_plain (by rfl) (by rfl) ?_; apply Exists.intro; refine ⟨fun wc hC hD => ?_, ?_⟩; (focus (clear hD; obtain ⟨c0, c1, c2, c3, c4, c5, c6, c7, c8, c9, c10⟩ := hC.seen; clear hC; go_simp; first | done | with_reducible rfl)); try simp only [Act.put, List.setIfInBounds_toArray, List.set_cons_zero, List.set_cons_succ]))
                refine calm_call _ _ (by rfl) (by rfl) ?_ ?_
                focus
                  apply Exists.intro
                  apply Exists.intro
                  refine ⟨fun wc hC hD => ?_, fun wc hC hD => ?_⟩
                  focus (clear hD; obtain ⟨c0, c1, c2, c3, c4, c5, c6, c7, c8, c9, c10⟩ := hC.seen; clear hC; go_simp; first | done | with_reducible exact ⟨rfl, rfl⟩)
                  clear hD
                  with_reducible refine (spec_is_yes s1 0 1 _ hs1.1 hs1.2).mono ?_
                  rintro e wx ⟨rfl, rfl⟩
                  exact ⟨_, rfl, Below.refl _ _, rfl, trivial⟩
                rintro _ rfl
                try simp only [Act.put, List.setIfInBounds_toArray, List.set_cons_zero, List.set_cons_succ]
                repeat (first
                  | (refine calm_skip (by rfl) ?_; try simp only [Act.put, List.setIfInBounds_toArray, List.set_cons_zero, List.set_cons_succ])
                  | (refine calm_plain (by rfl) (by rfl) ?_; apply Exists.intro; refine ⟨fun wc hC hD => ?_, ?_⟩; (focus (clear hD; obtain ⟨c0, c1, c2, c3, c4, c5, c6, c7, c8, c9, c10⟩ := hC.seen; clear hC; go_simp; first | done | with_reducible rfl)); try simp only [Act.put, List.setIfInBounds_toArray, List.set_cons_zero, List.set_cons_succ]))
                refine calm_call _ _ (by rfl) (by rfl) ?_ ?_
                focus
                  apply Exists.intro
                  apply Exists.intro
                  refine ⟨fun wc hC hD => ?_, fun wc hC hD => ?_⟩
                  focus (clear hD; obtain ⟨c0, c1, c2, c3, c4, c5, c6, c7, c8, c9, c10⟩ := hC.seen; clear hC; go_simp; first | done | with_reducible exact ⟨rfl, rfl⟩)
                  clear hD
                  with_reducible refine (spec_half A1 d.S.length c1 _ _ HN.out.1 HN.out.2).mono ?_
                  rintro e wx ⟨rfl, hb⟩
                  exact ⟨_, rfl, hb, by rw [HF.out], trivial⟩
                rintro _ rfl
                try simp only [Act.put, List.setIfInBounds_toArray, List.set_cons_zero, List.set_cons_succ]
                repeat (first
                  | (refine calm_skip (by rfl) ?_; try simp only [Act.put, List.setIfInBounds_toArray, List.set_cons_zero, List.set_cons_succ])
                  | (refine calm_plain (by rfl) (by rfl) ?_; apply Exists.intro; refine ⟨fun wc hC hD => ?_, ?_⟩; (focus (clear hD; obtain ⟨c0, c1, c2, c3, c4, c5, c6, c7, c8, c9, c10⟩ := hC.seen; clear hC; go_simp; first | done | with_reducible rfl)); try simp only [Act.put, List.setIfInBounds_toArray, List.set_cons_zero, List.set_cons_succ]))
                refine calm_call _ _ (by rfl) (by rfl) ?_ ?_
                focus
                  apply Exists.intro
                  apply Exists.intro
                  refine ⟨fun wc hC hD => ?_, fun wc hC hD => ?_⟩
                  focus (clear hD; obtain ⟨c0, c1, c2, c3, c4, c5, c6, c7, c8, c9, c10⟩ := hC.seen; clear hC; go_simp; first | done | with_reducible exact ⟨rfl, rfl⟩)
                  clear hD
                  with_reducible refine (spec_is_yes n1 0 _ _ hn1.1 hn1.2).mono ?_
                  rintro e wx ⟨rfl, rfl⟩
                  exact ⟨_, rfl, Below.refl _ _, rfl, trivial⟩
                rintro _ rfl
                try simp only [Act.put, List.setIfInBounds_toArray, List.set_cons_zero, List.set_cons_succ]
                repeat (first
                  | (refine calm_skip (by rfl) ?_; try simp only [Act.put, List.setIfInBounds_toArray, List.set_cons_zero, List.set_cons_succ])
                  | (refine calm_plain (by rfl) (by rfl) ?_; apply Exists.intro; refine ⟨fun wc hC hD => ?_, ?_⟩; (focus (clear hD; obtain ⟨c0, c1, c2, c3, c4, c5, c6, c7, c8, c9, c10⟩ := hC.seen; clear hC; go_simp; first | done | with_reducible rfl)); try simp only [Act.put, List.setIfInBounds_toArray, List.set_cons_zero, List.set_cons_succ]))
                refine calm_end ?_
                intro w7 hL7 hF7
                clear hF7
                replace HL := Lib.hid hL7
                clear hL7
                obtain ⟨c0, c1, c2, c3, c4, c5, c6, c7, c8, c9, c10⟩ := HL.out.seen
                go_wp2
                go_quiet (fail)
                go_wp2
                refine bodyPost_ret (v := .tuple #[.int .i64 g1, .int .i64 s1, .int .i64 n1, .int .i64 0]) (by simp [results, Tryz.results47, go_sem]) rfl ?_
                exact ⟨by rw [HE.out], below_drewN' HL.out.bel _⟩
              · have HE := Lib.hid (HNO.out (fun h => hn1 ⟨h.2.2.2.2.2.2.1, by have := h.2.2.2.2.2.2.2; have := HF.out; simp only [halfN] at *; omega⟩))
                clear hh
                go_upto_region 7 with fail
                refine wp_region_calm_led (told [(20, fun u => u = .string (headB g1 s1 n1)), (22, fun u => ∃ B1 e1 B2 e2, u = .agg #[.slice B1 d.S.length e1, .slice B2 d.P.length e2, .string (readT d 0), .int .i64 0]), (34, fun u => u = .bool true), (41, fun u => u = .int .i64 hf), (43, fun u => u = .bool false)]) (by kernel_rfl) (by kernel_rfl) (told_mono _) HL.out ?_
                repeat (first
                  | (refine calm_skip (by rfl) ?_; try simp only [Act.put, List.setIfInBounds_toArray, List.set_cons_zero, List.set_cons_succ])
                  | (refine calm_plain (by rfl) (by rfl) ?_; apply Exists.intro; refine ⟨fun wc hC hD => ?_, ?_⟩; (focus (clear hD; obtain ⟨c0, c1, c2, c3, c4, c5, c6, c7, c8, c9, c10⟩ := hC.seen; clear hC; go_simp; first | done | with_reducible rfl)); try simp only [Act.put, List.setIfInBounds_toArray, List.set_cons_zero, List.set_cons_succ]))
                refine calm_call _ _ (by rfl) (by rfl) ?_ ?_
                focus
                  apply Exists.intro
                  apply Exists.intro
                  refine ⟨fun wc hC hD => ?_, fun wc hC hD => ?_⟩
                  focus (clear hD; obtain ⟨c0, c1, c2, c3, c4, c5, c6, c7, c8, c9, c10⟩ := hC.seen; clear hC; go_simp; first | done | with_reducible exact ⟨rfl, rfl⟩)
                  clear hD
                  with_reducible refine (spec_head g1 s1 n1 _ HI.out.1 HI.out.2.1 HI.out.2.2).mono ?_
                  rintro e wx ⟨rfl, hb⟩
                  exact ⟨_, rfl, hb, rfl, trivial⟩
                rintro _ rfl
                try simp only [Act.put, List.setIfInBounds_toArray, List.set_cons_zero, List.set_cons_succ]
                repeat (first
                  | (refine calm_skip (by rfl) ?_; try simp only [Act.put, List.setIfInBounds_toArray, List.set_cons_zero, List.set_cons_succ])
                  | (refine calm_plain (by rfl) (by rfl) ?_; apply Exists.intro; refine ⟨fun wc hC hD => ?_, ?_⟩; (focus (clear hD; obtain ⟨c0, c1, c2, c3, c4, c5, c6, c7, c8, c9, c10⟩ := hC.seen; clear hC; go_simp; first | done | with_reducible rfl)); try simp only [Act.put, List.setIfInBounds_toArray, List.set_cons_zero, List.set_cons_succ]))
                refine calm_call _ _ (by rfl) (by rfl) ?_ ?_
                focus
                  apply Exists.intro
                  apply Exists.intro
                  refine ⟨fun wc hC hD => ?_, fun wc hC hD => ?_⟩
                  focus (clear hD; obtain ⟨c0, c1, c2, c3, c4, c5, c6, c7, c8, c9, c10⟩ := hC.seen; clear hC; go_simp; first | done | with_reducible exact ⟨rfl, rfl⟩)
                  clear hD
                  with_reducible refine (spec_read _ d 0 _ (hC.at_ List.mem_cons_self) (right_small' HR.out)).mono ?_
                  intro e wx h
                  rw [HR0.out] at h
                  obtain ⟨B1, e1, B2, e2, rfl, ho, hb⟩ := h.parts
                  exact ⟨_, rfl, hb, ⟨_, _, _, _, rfl⟩, trivial⟩
                rintro _ ⟨B1, e1, B2, e2, rfl⟩
                have hfd := (fun W => field_text B1 d.S.length e1 B2 d.P.length e2 (readT d 0) 0 W)
                try simp only [Act.put, List.setIfInBounds_toArray, List.set_cons_zero, List.set_cons_succ]
                repeat (first
                  | (refine calm_skip (by rfl) ?_; try simp only [Act.put, List.setIfInBounds_toArray, List.set_cons_zero, List.set_cons_succ])
                  | (refine calm_plain (by rfl) (by rfl) ?_; apply Exists.intro; refine ⟨fun wc hC hD => ?_, ?_⟩; (focus (clear hD; obtain ⟨c0, c1, c2, c3, c4, c5, c6, c7, c8, c9, c10⟩ := hC.seen; clear hC; go_simp; first | done | with_reducible rfl)); try simp only [Act.put, List.setIfInBounds_toArray, List.set_cons_zero, List.set_cons_succ]))
                refine calm_call _ _ (by rfl) (by rfl) ?_ ?_
                focus
                  apply Exists.intro
                  apply Exists.intro
                  refine ⟨fun wc hC hD => ?_, fun wc hC hD => ?_⟩
                  focus (clear hD; obtain ⟨c0, c1, c2, c3, c4, c5, c6, c7, c8, c9, c10⟩ := hC.seen; clear hC; go_simp; first | done | with_reducible exact ⟨rfl, rfl⟩)
                  clear hD
                  with_reducible refine (spec_is_yes s1 0 1 _ hs1.1 hs1.2).mono ?_
                  rintro e wx ⟨rfl, rfl⟩
                  exact ⟨_, rfl, Below.refl _ _, rfl, trivial⟩
                rintro _ rfl
                try simp only [Act.put, List.setIfInBounds_toArray, List.set_cons_zero, List.set_cons_succ]
                repeat (first
                  | (refine calm_skip (by rfl) ?_; try simp only [Act.put, List.setIfInBounds_toArray, List.set_cons_zero, List.set_cons_succ])
                  | (refine calm_plain (by rfl) (by rfl) ?_; apply Exists.intro; refine ⟨fun wc hC hD => ?_, ?_⟩; (focus (clear hD; obtain ⟨c0, c1, c2, c3, c4, c5, c6, c7, c8, c9, c10⟩ := hC.seen; clear hC; go_simp; first | done | with_reducible rfl)); try simp only [Act.put, List.setIfInBounds_toArray, List.set_cons_zero, List.set_cons_succ]))
                refine calm_call _ _ (by rfl) (by rfl) ?_ ?_
                focus
                  apply Exists.intro
                  apply Exists.intro
                  refine ⟨fun wc hC hD => ?_, fun wc hC hD => ?_⟩
                  focus (clear hD; obtain ⟨c0, c1, c2, c3, c4, c5, c6, c7, c8, c9, c10⟩ := hC.seen; clear hC; go_simp; first | done | with_reducible exact ⟨rfl, rfl⟩)
                  clear hD
                  with_reducible refine (spec_half A1 d.S.length c1 _ _ HN.out.1 HN.out.2).mono ?_
                  rintro e wx ⟨rfl, hb⟩
                  exact ⟨_, rfl, hb, by rw [HF.out], trivial⟩
                rintro _ rfl
                try simp only [Act.put, List.setIfInBounds_toArray, List.set_cons_zero, List.set_cons_succ]
                repeat (first
                  | (refine calm_skip (by rfl) ?_; try simp only [Act.put, List.setIfInBounds_toArray, List.set_cons_zero, List.set_cons_succ])
                  | (refine calm_plain (by rfl) (by rfl) ?_; apply Exists.intro; refine ⟨fun wc hC hD => ?_, ?_⟩; (focus (clear hD; obtain ⟨c0, c1, c2, c3, c4, c5, c6, c7, c8, c9, c10⟩ := hC.seen; clear hC; go_simp; first | done | with_reducible rfl)); try simp only [Act.put, List.setIfInBounds_toArray, List.set_cons_zero, List.set_cons_succ]))
                refine calm_call _ _ (by rfl) (by rfl) ?_ ?_
                focus
                  apply Exists.intro
                  apply Exists.intro
                  refine ⟨fun wc hC hD => ?_, fun wc hC hD => ?_⟩
                  focus (clear hD; obtain ⟨c0, c1, c2, c3, c4, c5, c6, c7, c8, c9, c10⟩ := hC.seen; clear hC; go_simp; first | done | with_reducible exact ⟨rfl, rfl⟩)
                  clear hD
                  with_reducible refine (spec_is_no n1 0 _ _ hn1).mono ?_
                  rintro e wx ⟨rfl, rfl⟩
                  exact ⟨_, rfl, Below.refl _ _, rfl, trivial⟩
                rintro _ rfl
                try simp only [Act.put, List.setIfInBounds_toArray, List.set_cons_zero, List.set_cons_succ]
                repeat (first
                  | (refine calm_skip (by rfl) ?_; try simp only [Act.put, List.setIfInBounds_toArray, List.set_cons_zero, List.set_cons_succ])
                  | (refine calm_plain (by rfl) (by rfl) ?_; apply Exists.intro; refine ⟨fun wc hC hD => ?_, ?_⟩; (focus (clear hD; obtain ⟨c0, c1, c2, c3, c4, c5, c6, c7, c8, c9, c10⟩ := hC.seen; clear hC; go_simp; first | done | with_reducible rfl)); try simp only [Act.put, List.setIfInBounds_toArray, List.set_cons_zero, List.set_cons_succ]))
                refine calm_end ?_
                intro w7 hL7 hF7
                clear hF7
                replace HL := Lib.hid hL7
                clear hL7
                obtain ⟨c0, c1, c2, c3, c4, c5, c6, c7, c8, c9, c10⟩ := HL.out.seen
                go_wp2
                refine bodyPost_ret (v := .tuple #[.int .i64 0, .int .i64 0, .int .i64 0, .int .i64 3]) (by simp [results, Tryz.results47, go_sem]) rfl ?_
                exact ⟨by rw [HE.out], HL.out.bel⟩
            · have HE := Lib.hid (HNO.out (fun h => hs1 h.2.2.2.2.2.1))
              clear hh
              go_upto_region 7 with fail
              refine wp_region_calm_led (told [(20, fun u => u = .string (headB g1 s1 n1)), (22, fun u => ∃ B1 e1 B2 e2, u = .agg #[.slice B1 d.S.length e1, .slice B2 d.P.length e2, .string (readT d 0), .int .i64 0]), (34, fun u => u = .bool false), (41, fun u => u = .int .i64 hf), (43, fun u => u = .bool true)]) (by kernel_rfl) (by kernel_rfl) (told_mono _) HL.out ?_
              repeat (first
                | (refine calm_skip (by rfl) ?_; try simp only [Act.put, List.setIfInBounds_toArray, List.set_cons_zero, List.set_cons_succ])
                | (refine calm_plain (by rfl) (by rfl) ?_; apply Exists.intro; refine ⟨fun wc hC hD => ?_, ?_⟩; (focus (clear hD; obtain ⟨c0, c1, c2, c3, c4, c5, c6, c7, c8, c9, c10⟩ := hC.seen; clear hC; go_simp; first | done | with_reducible rfl)); try simp only [Act.put, List.setIfInBounds_toArray, List.set_cons_zero, List.set_cons_succ]))
              refine calm_call _ _ (by rfl) (by rfl) ?_ ?_
              focus
                apply Exists.intro
                apply Exists.intro
                refine ⟨fun wc hC hD => ?_, fun wc hC hD => ?_⟩
                focus (clear hD; obtain ⟨c0, c1, c2, c3, c4, c5, c6, c7, c8, c9, c10⟩ := hC.seen; clear hC; go_simp; first | done | with_reducible exact ⟨rfl, rfl⟩)
                clear hD
                with_reducible refine (spec_head g1 s1 n1 _ HI.out.1 HI.out.2.1 HI.out.2.2).mono ?_
                rintro e wx ⟨rfl, hb⟩
                exact ⟨_, rfl, hb, rfl, trivial⟩
              rintro _ rfl
              try simp only [Act.put, List.setIfInBounds_toArray, List.set_cons_zero, List.set_cons_succ]
              repeat (first
                | (refine calm_skip (by rfl) ?_; try simp only [Act.put, List.setIfInBounds_toArray, List.set_cons_zero, List.set_cons_succ])
                | (refine calm_plain (by rfl) (by rfl) ?_; apply Exists.intro; refine ⟨fun wc hC hD => ?_, ?_⟩; (focus (clear hD; obtain ⟨c0, c1, c2, c3, c4, c5, c6, c7, c8, c9, c10⟩ := hC.seen; clear hC; go_simp; first | done | with_reducible rfl)); try simp only [Act.put, List.setIfInBounds_toArray, List.set_cons_zero, List.set_cons_succ]))
              refine calm_call _ _ (by rfl) (by rfl) ?_ ?_
              focus
                apply Exists.intro
                apply Exists.intro
                refine ⟨fun wc hC hD => ?_, fun wc hC hD => ?_⟩
                focus (clear hD; obtain ⟨c0, c1, c2, c3, c4, c5, c6, c7, c8, c9, c10⟩ := hC.seen; clear hC; go_simp; first | done | with_reducible exact ⟨rfl, rfl⟩)
                clear hD
                with_reducible refine (spec_read _ d 0 _ (hC.at_ List.mem_cons_self) (right_small' HR.out)).mono ?_
                intro e wx h
                rw [HR0.out] at h
                obtain ⟨B1, e1, B2, e2, rfl, ho, hb⟩ := h.parts
                exact ⟨_, rfl, hb, ⟨_, _, _, _, rfl⟩, trivial⟩
              rintro _ ⟨B1, e1, B2, e2, rfl⟩
              have hfd := (fun W => field_text B1 d.S.length e1 B2 d.P.length e2 (readT d 0) 0 W)
              try simp only [Act.put, List.setIfInBounds_toArray, List.set_cons_zero, List.set_cons_succ]
              repeat (first
                | (refine calm_skip (by rfl) ?_; try simp only [Act.put, List.setIfInBounds_toArray, List.set_cons_zero, List.set_cons_succ])
                | (refine calm_plain (by rfl) (by rfl) ?_; apply Exists.intro; refine ⟨fun wc hC hD => ?_, ?_⟩; (focus (clear hD; obtain ⟨c0, c1, c2, c3, c4, c5, c6, c7, c8, c9, c10⟩ := hC.seen; clear hC; go_simp; first | done | with_reducible rfl)); try simp only [Act.put, List.setIfInBounds_toArray, List.set_cons_zero, List.set_cons_succ]))
              refine calm_call _ _ (by rfl) (by rfl) ?_ ?_
              focus
                apply Exists.intro
                apply Exists.intro
                refine ⟨fun wc hC hD => ?_, fun wc hC hD => ?_⟩
                focus (clear hD; obtain ⟨c0, c1, c2, c3, c4, c5, c6, c7, c8, c9, c10⟩ := hC.seen; clear hC; go_simp; first | done | with_reducible exact ⟨rfl, rfl⟩)
                clear hD
                with_reducible refine (spec_is_no s1 0 1 _ hs1).mono ?_
                rintro e wx ⟨rfl, rfl⟩
                exact ⟨_, rfl, Below.refl _ _, rfl, trivial⟩
              rintro _ rfl
              try simp only [Act.put, List.setIfInBounds_toArray, List.set_cons_zero, List.set_cons_succ]
              repeat (first
                | (refine calm_skip (by rfl) ?_; try simp only [Act.put, List.setIfInBounds_toArray, List.set_cons_zero, List.set_cons_succ])
                | (refine calm_plain (by rfl) (by rfl) ?_; apply Exists.intro; refine ⟨fun wc hC hD => ?_, ?_⟩; (focus (clear hD; obtain ⟨c0, c1, c2, c3, c4, c5, c6, c7, c8, c9, c10⟩ := hC.seen; clear hC; go_simp; first | done | with_reducible rfl)); try simp only [Act.put, List.setIfInBounds_toArray, List.set_cons_zero, List.set_cons_succ]))
              refine calm_end ?_
              intro w7 hL7 hF7
              clear hF7
              replace HL := Lib.hid hL7
              clear hL7
              obtain ⟨c0, c1, c2, c3, c4, c5, c6, c7, c8, c9, c10⟩ := HL.out.seen
              go_wp2
              refine bodyPost_ret (v := .tuple #[.int .i64 0, .int .i64 0, .int .i64 0, .int .i64 3]) (by simp [results, Tryz.results47, go_sem]) rfl ?_
              exact ⟨by rw [HE.out], HL.out.bel⟩
        · have HE := Lib.hid (HNO.out (fun h => hh h.2.2.2.1))
          have hhb : ((headB g1 s1 n1).toList != (readT d 0).toList) = true := by
            rw [bne_iff_ne]
            exact fun e => hh (bytes_same e)
          have hhc : ((headB g1 s1 n1).toList == (readT d 0).toList) = false := by
            rw [beq_eq_false_iff_ne]
            exact fun e => hh (bytes_same e)
          clear hh
          go_upto_region 7 with fail
          refine wp_region_calm_led (told [(20, fun u => u = .string (headB g1 s1 n1)), (22, fun u => ∃ B1 e1 B2 e2, u = .agg #[.slice B1 d.S.length e1, .slice B2 d.P.length e2, .string (readT d 0), .int .i64 0]), (34, fun u => u = .bool true), (41, fun u => u = .int .i64 hf), (43, fun u => u = .bool true)]) (by kernel_rfl) (by kernel_rfl) (told_mono _) HL.out ?_
          repeat (first
            | (refine calm_skip (by rfl) ?_; try simp only [Act.put, List.setIfInBounds_toArray, List.set_cons_zero, List.set_cons_succ])
            | (refine calm_plain (by rfl) (by rfl) ?_; apply Exists.intro; refine ⟨fun wc hC hD => ?_, ?_⟩; (focus (clear hD; obtain ⟨c0, c1, c2, c3, c4, c5, c6, c7, c8, c9, c10⟩ := hC.seen; clear hC; go_simp; first | done | with_reducible rfl)); try simp only [Act.put, List.setIfInBounds_toArray, List.set_cons_zero, List.set_cons_succ]))
          refine calm_call _ _ (by rfl) (by rfl) ?_ ?_
          focus
            apply Exists.intro
            apply Exists.intro
            refine ⟨fun wc hC hD => ?_, fun wc hC hD => ?_⟩
            focus (clear hD; obtain ⟨c0, c1, c2, c3, c4, c5, c6, c7, c8, c9, c10⟩ := hC.seen; clear hC; go_simp; first | done | with_reducible exact ⟨rfl, rfl⟩)
            clear hD
            with_reducible refine (spec_head g1 s1 n1 _ HI.out.1 HI.out.2.1 HI.out.2.2).mono ?_
            rintro e wx ⟨rfl, hb⟩
            exact ⟨_, rfl, hb, rfl, trivial⟩
          rintro _ rfl
          try simp only [Act.put, List.setIfInBounds_toArray, List.set_cons_zero, List.set_cons_succ]
          repeat (first
            | (refine calm_skip (by rfl) ?_; try simp only [Act.put, List.setIfInBounds_toArray, List.set_cons_zero, List.set_cons_succ])
            | (refine calm_plain (by rfl) (by rfl) ?_; apply Exists.intro; refine ⟨fun wc hC hD => ?_, ?_⟩; (focus (clear hD; obtain ⟨c0, c1, c2, c3, c4, c5, c6, c7, c8, c9, c10⟩ := hC.seen; clear hC; go_simp; first | done | with_reducible rfl)); try simp only [Act.put, List.setIfInBounds_toArray, List.set_cons_zero, List.set_cons_succ]))
          refine calm_call _ _ (by rfl) (by rfl) ?_ ?_
          focus
            apply Exists.intro
            apply Exists.intro
            refine ⟨fun wc hC hD => ?_, fun wc hC hD => ?_⟩
            focus (clear hD; obtain ⟨c0, c1, c2, c3, c4, c5, c6, c7, c8, c9, c10⟩ := hC.seen; clear hC; go_simp; first | done | with_reducible exact ⟨rfl, rfl⟩)
            clear hD
            with_reducible refine (spec_read _ d 0 _ (hC.at_ List.mem_cons_self) (right_small' HR.out)).mono ?_
            intro e wx h
            rw [HR0.out] at h
            obtain ⟨B1, e1, B2, e2, rfl, ho, hb⟩ := h.parts
            exact ⟨_, rfl, hb, ⟨_, _, _, _, rfl⟩, trivial⟩
          rintro _ ⟨B1, e1, B2, e2, rfl⟩
          have hfd := (fun W => field_text B1 d.S.length e1 B2 d.P.length e2 (readT d 0) 0 W)
          try simp only [Act.put, List.setIfInBounds_toArray, List.set_cons_zero, List.set_cons_succ]
          repeat (first
            | (refine calm_skip (by rfl) ?_; try simp only [Act.put, List.setIfInBounds_toArray, List.set_cons_zero, List.set_cons_succ])
            | (refine calm_plain (by rfl) (by rfl) ?_; apply Exists.intro; refine ⟨fun wc hC hD => ?_, ?_⟩; (focus (clear hD; obtain ⟨c0, c1, c2, c3, c4, c5, c6, c7, c8, c9, c10⟩ := hC.seen; clear hC; go_simp; first | done | with_reducible rfl)); try simp only [Act.put, List.setIfInBounds_toArray, List.set_cons_zero, List.set_cons_succ]))
          refine calm_end ?_
          intro w7 hL7 hF7
          clear hF7
          replace HL := Lib.hid hL7
          clear hL7
          obtain ⟨c0, c1, c2, c3, c4, c5, c6, c7, c8, c9, c10⟩ := HL.out.seen
          go_wp2
          refine bodyPost_ret (v := .tuple #[.int .i64 0, .int .i64 0, .int .i64 0, .int .i64 3]) (by simp [results, Tryz.results47, go_sem]) rfl ?_
          exact ⟨by rw [HE.out], HL.out.bel⟩
      · have HE := Lib.hid (HNO.out (fun h => hn3 h.2.2.1))
        have hbn : (n3 != 0) = true := by simp [hn3]
        have hbm : (n3 == 0) = false := by simp [hn3]
        subst hg3 hs3
        go_upto_region 7 with fail
        refine wp_region_calm_led (told [(20, fun u => u = .string (headB g1 s1 n1)), (22, fun u => ∃ B1 e1 B2 e2, u = .agg #[.slice B1 d.S.length e1, .slice B2 d.P.length e2, .string (readT d 0), .int .i64 0]), (34, fun u => u = .bool true), (43, fun u => u = .bool true)]) (by kernel_rfl) (by kernel_rfl) (told_mono _) HL.out ?_
        repeat (first
          | (refine calm_skip (by rfl) ?_; try simp only [Act.put, List.setIfInBounds_toArray, List.set_cons_zero, List.set_cons_succ])
          | (refine calm_plain (by rfl) (by rfl) ?_; apply Exists.intro; refine ⟨fun wc hC hD => ?_, ?_⟩; (focus (clear hD; obtain ⟨c0, c1, c2, c3, c4, c5, c6, c7, c8, c9, c10⟩ := hC.seen; clear hC; go_simp; first | done | with_reducible rfl)); try simp only [Act.put, List.setIfInBounds_toArray, List.set_cons_zero, List.set_cons_succ]))
        refine calm_end ?_
        intro w7 hL7 hF7
        clear hF7
        replace HL := Lib.hid hL7
        clear hL7
        obtain ⟨c0, c1, c2, c3, c4, c5, c6, c7, c8, c9, c10⟩ := HL.out.seen
        go_wp2
        refine bodyPost_ret (v := .tuple #[.int .i64 0, .int .i64 0, .int .i64 0, .int .i64 3]) (by simp [results, Tryz.results47, go_sem]) rfl ?_
        exact ⟨by rw [HE.out], HL.out.bel⟩
    · have HE := Lib.hid (HNO.out (fun h => hs3 h.2.1))
      have hbn : (s3 != 0) = true := by simp [hs3]
      have hbm : (s3 == 0) = false := by simp [hs3]
      subst hg3
      go_upto_region 7 with fail
      refine wp_region_calm_led (told [(20, fun u => u = .string (headB g1 s1 n1)), (22, fun u => ∃ B1 e1 B2 e2, u = .agg #[.slice B1 d.S.length e1, .slice B2 d.P.length e2, .string (readT d 0), .int .i64 0]), (34, fun u => u = .bool true), (43, fun u => u = .bool true)]) (by kernel_rfl) (by kernel_rfl) (told_mono _) HL.out ?_
      repeat (first
        | (refine calm_skip (by rfl) ?_; try simp only [Act.put, List.setIfInBounds_toArray, List.set_cons_zero, List.set_cons_succ])
        | (refine calm_plain (by rfl) (by rfl) ?_; apply Exists.intro; refine ⟨fun wc hC hD => ?_, ?_⟩; (focus (clear hD; obtain ⟨c0, c1, c2, c3, c4, c5, c6, c7, c8, c9, c10⟩ := hC.seen; clear hC; go_simp; first | done | with_reducible rfl)); try simp only [Act.put, List.setIfInBounds_toArray, List.set_cons_zero, List.set_cons_succ]))
      refine calm_end ?_
      intro w7 hL7 hF7
      clear hF7
      replace HL := Lib.hid hL7
      clear hL7
      obtain ⟨c0, c1, c2, c3, c4, c5, c6, c7, c8, c9, c10⟩ := HL.out.seen
      go_wp2
      refine bodyPost_ret (v := .tuple #[.int .i64 0, .int .i64 0, .int .i64 0, .int .i64 3]) (by simp [results, Tryz.results47, go_sem]) rfl ?_
      exact ⟨by rw [HE.out], HL.out.bel⟩
  · have HE := Lib.hid (HNO.out (fun h => hg3 h.1))
    have hbn : (g3 != 0) = true := by simp [hg3]
    have hbm : (g3 == 0) = false := by simp [hg3]
    go_upto_region 7 with fail
    refine wp_region_calm_led (told [(20, fun u => u = .string (headB g1 s1 n1)), (22, fun u => ∃ B1 e1 B2 e2, u = .agg #[.slice B1 d.S.length e1, .slice B2 d.P.length e2, .string (readT d 0), .int .i64 0]), (34, fun u => u = .bool true), (43, fun u => u = .bool true)]) (by kernel_rfl) (by kernel_rfl) (told_mono _) HL.out ?_
    repeat (first
      | (refine calm_skip (by rfl) ?_; try simp only [Act.put, List.setIfInBounds_toArray, List.set_cons_zero, List.set_cons_succ])
      | (refine calm_plain (by rfl) (by rfl) ?_; apply Exists.intro; refine ⟨fun wc hC hD => ?_, ?_⟩; (focus (clear hD; obtain ⟨c0, c1, c2, c3, c4, c5, c6, c7, c8, c9, c10⟩ := hC.seen; clear hC; go_simp; first | done | with_reducible rfl)); try simp only [Act.put, List.setIfInBounds_toArray, List.set_cons_zero, List.set_cons_succ]))
    refine calm_end ?_
    intro w7 hL7 hF7
    clear hF7
    replace HL := Lib.hid hL7
    clear hL7
    obtain ⟨c0, c1, c2, c3, c4, c5, c6, c7, c8, c9, c10⟩ := HL.out.seen
    go_wp2
    refine bodyPost_ret (v := .tuple #[.int .i64 0, .int .i64 0, .int .i64 0, .int .i64 3]) (by simp [results, Tryz.results47, go_sem]) rfl ?_
    exact ⟨by rw [HE.out], HL.out.bel⟩

end Go.Proofs.YthchlfllcnlmjaaGreatDoor
