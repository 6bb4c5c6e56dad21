/-
  Contract of the model's AreaFormat.
-/
import Derived.Test.YthchlfllcnlmjaaGreatDoorFormat
namespace Go.Proofs.YthchlfllcnlmjaaGreatDoor
open Go.ChangeShapes Go.WideShapes Go.ChangeAt Go.RowKit

theorem Led.drew {w W : World} {L : List (Nat × Obj)} {D O : List (Nat × Value × Dk)} (h : Led w W L D O) : Led w W.drew L D O := h.lift (Below.refl W.heap.size W).drew
theorem Led.made {w W : World} {L : List (Nat × Obj)} {D O : List (Nat × Value × Dk)} (h : Led w W L D O) (o : Obj) : Led w (W.alloc o) L D O := h.lift ((Below.refl _ W).alloc (Nat.le_refl _) o)
theorem led_two (w : World) (o1 o2 : Obj) {v : Value} {d : Dk} (hv : DkAt w w.heap.size v d) : Led w ((w.alloc o1).alloc o2) [(w.heap.size + 1, o2), (w.heap.size, o1)] [(w.heap.size, v, d)] [] := by
  have h0 : Led w w [] [(w.heap.size, v, d)] [] := ⟨Below.refl _ _, by simp, fun p hp => by rw [List.mem_singleton.1 hp]; exact ⟨Nat.le_refl _, hv⟩, by simp⟩
  exact (((h0.made o1).made o2).know (alloc_blk (heap_alloc_new w o1) o2)).know (heap_two w o1 o2)
/-- The result's box is written. -/
theorem ao_done' {w W : World} (h : Below w.heap.size w W) {o : Ao} {s p : Value} {base : Nat} (ho : DkOw W base (.agg #[s, p]) o.dk) (hb : w.heap.size + 2 ≤ base) (y0 y1 y2 y3 y4 : Value) :
    AoOw (((((W.setCell ⟨w.heap.size + 1, 0, none⟩ y0).setCell ⟨w.heap.size + 1, 1, none⟩ y1).setCell ⟨w.heap.size + 1, 2, none⟩ y2).setCell ⟨w.heap.size + 1, 3, none⟩ y3).setCell ⟨w.heap.size + 1, 4, none⟩ y4) w.heap.size (.agg #[s, p, .string o.text, .int .i64 o.gen, .int .i64 o.code]) o
    ∧ Below w.heap.size w (((((W.setCell ⟨w.heap.size + 1, 0, none⟩ y0).setCell ⟨w.heap.size + 1, 1, none⟩ y1).setCell ⟨w.heap.size + 1, 2, none⟩ y2).setCell ⟨w.heap.size + 1, 3, none⟩ y3).setCell ⟨w.heap.size + 1, 4, none⟩ y4) := by
  refine ⟨⟨s, p, rfl, ?_⟩, ?_⟩
  · refine DkOw.base (base := base) ?_ (by omega)
    repeat (refine DkOw.far ?_ (by simp only; omega) _)
    exact ho
  · repeat (refine Below.setCell ?_ (by simp only; omega) _)
    exact h
theorem ao_done {w W : World} {L : List (Nat × Obj)} {D : List (Nat × Value × Dk)} (h : Led w W L D []) {o : Ao} {s p : Value} {base : Nat} (ho : DkOw W base (.agg #[s, p]) o.dk) (hb : w.heap.size + 2 ≤ base) (y0 y1 y2 y3 y4 : Value) :
    AoOw (((((W.setCell ⟨w.heap.size + 1, 0, none⟩ y0).setCell ⟨w.heap.size + 1, 1, none⟩ y1).setCell ⟨w.heap.size + 1, 2, none⟩ y2).setCell ⟨w.heap.size + 1, 3, none⟩ y3).setCell ⟨w.heap.size + 1, 4, none⟩ y4) w.heap.size (.agg #[s, p, .string o.text, .int .i64 o.gen, .int .i64 o.code]) o
    ∧ Below w.heap.size w (((((W.setCell ⟨w.heap.size + 1, 0, none⟩ y0).setCell ⟨w.heap.size + 1, 1, none⟩ y1).setCell ⟨w.heap.size + 1, 2, none⟩ y2).setCell ⟨w.heap.size + 1, 3, none⟩ y3).setCell ⟨w.heap.size + 1, 4, none⟩ y4) := ao_done' h.bel ho hb y0 y1 y2 y3 y4
theorem ao_done_made {w W : World} {L : List (Nat × Obj)} {D : List (Nat × Value × Dk)} (h : Led w W L D []) {o : Ao} {s p : Value} {base : Nat} (ho : DkOw W base (.agg #[s, p]) o.dk) (hb : w.heap.size + 2 ≤ base) (y0 y1 y2 y3 y4 : Value) (ob : Obj) :
    AoOw ((((((W.setCell ⟨w.heap.size + 1, 0, none⟩ y0).setCell ⟨w.heap.size + 1, 1, none⟩ y1).setCell ⟨w.heap.size + 1, 2, none⟩ y2).setCell ⟨w.heap.size + 1, 3, none⟩ y3).setCell ⟨w.heap.size + 1, 4, none⟩ y4).alloc ob) w.heap.size (.agg #[s, p, .string o.text, .int .i64 o.gen, .int .i64 o.code]) o
    ∧ Below w.heap.size w ((((((W.setCell ⟨w.heap.size + 1, 0, none⟩ y0).setCell ⟨w.heap.size + 1, 1, none⟩ y1).setCell ⟨w.heap.size + 1, 2, none⟩ y2).setCell ⟨w.heap.size + 1, 3, none⟩ y3).setCell ⟨w.heap.size + 1, 4, none⟩ y4).alloc ob) := by
  obtain ⟨⟨s', p', e, h1⟩, h2⟩ := ao_done h ho hb y0 y1 y2 y3 y4
  exact ⟨⟨s', p', e, h1.alloc _⟩, h2.alloc h2.size _⟩
theorem made_drew (w : World) (o : Obj) : (w.alloc o).drew.heap[w.heap.size]? = some o := heap_alloc_new w o
theorem lt_two {a b : Nat} {o1 o2 : Obj} (h : a + 1 < b) : ∀ q ∈ [(a + 1, o1), (a, o2)], q.1 < b := fun q hq => by
  simp only [List.mem_cons, List.not_mem_nil, or_false] at hq
  rcases hq with rfl | rfl
  · exact h
  · simp only; omega
theorem le_one {a b : Nat} {v : Value} {d : Dk} (h : a + 1 < b) : ∀ q ∈ [(a, v, d)], q.1 ≤ b := fun q hq => by
  rw [List.mem_singleton.1 hq]
  simp only
  omega
theorem i64_0 : I64 0 := ⟨by decide, by decide⟩

set_option maxRecDepth 100000 in
set_option maxHeartbeats 4000000 in
theorem spec_format (v : Value) (d : Dk) (w : World) (hv : DkAt w w.heap.size v d) (hd : Small d) :
    Calls Tryz.prog 16 #[v] w (OwnsAo w (formatAo d)) := by
  obtain ⟨vs, vp, rfl, hs, hp⟩ := hv
  obtain ⟨A1, c1, rfl⟩ := hs.form
  obtain ⟨A2, c2, rfl⟩ := hp.form
  have HL := Lib.hid (led_two w (.cells #[.slice A1 d.S.length c1, .slice A2 d.P.length c2] 26) (.cells #[.slice none 0 0, .slice none 0 0, .string ⟨#[]⟩, .int .i64 0, .int .i64 0] 31) (d := d) ⟨_, _, rfl, hs, hp⟩)
  have HSM := Lib.hid hd
  have hd1 := hd.1; have hd2 := hd.2.2.1
  clear hs hp hd
  go_enter Tryz.func16, Tryz.ntmps16
  go_wp2_with fail
  refine (spec_right _ d _ (HL.out.at_ List.mem_cons_self) (by omega) (by omega)).mono ?_
  rintro e w1 ⟨rfl, hb⟩
  replace HL := Lib.hid (HL.out.lift hb)
  clear hb
  obtain ⟨x0, x1, hx⟩ := HL.out.b2 (List.mem_cons_of_mem _ List.mem_cons_self)
  have HZ := Lib.hid (HL.out.blk _ List.mem_cons_self)
  have hz := block_lt HZ.out
  by_cases hR : Right d
  · rw [rightB_yes hR]
    by_cases h3 : d.S.length < 3
    · have HE := Lib.hid (format_full hR h3)
      have h3' : (d.S.length : Int) < 3 := by omega
      go_wp2_with fail
      refine (spec_illao 9 _).mono ?_
      intro e w2 h
      obtain ⟨B1, e1, B2, e2, rfl, ho, hb⟩ := h.parts
      replace HL := Lib.hid (HL.out.lift hb)
      replace HZ := Lib.hid (keep_blk hb HZ.out)
      have HO := Lib.hid ho
      clear h ho hb x0 x1
      obtain ⟨z0, z1, z2, z3, z4⟩ := box5 HZ.out
      obtain ⟨k0, k1, k2, k3⟩ := box_frozen HZ.out
      have k4 : w2.frozen? ⟨w.heap.size + 1, 4, none⟩ = false := block_free HZ.out 4
      go_wp2
      refine bodyPost_ret (v := .agg #[.slice B1 (illAo 9).dk.S.length e1, .slice B2 (illAo 9).dk.P.length e2, .string (illAo 9).text, .int .i64 (illAo 9).gen, .int .i64 (illAo 9).code]) (by simp [results, Tryz.results16, go_sem, z0, z1, z2, z3, z4]) rfl ?_
      rw [HE.out]
      exact ⟨_, rfl, ao_done HL.out HO.out (by omega) _ _ _ _ _⟩
    · have h3' : ¬ (d.S.length : Int) < 3 := by omega
      have HT := Lib.hid (show (headB 0 0 0).size ≤ 1048576 by have := head_size 0 0 0; omega)
      clear HZ
      go_upto_region 5 with fail
      go_cut [3] (fun y wx => Wr w [(w.heap.size + 1, .cells #[.slice none 0 0, .slice none 0 0, .string ⟨#[]⟩, .int .i64 0, .int .i64 0] 31 (0, 0)), (w.heap.size, .cells #[.slice A1 d.S.length c1, .slice A2 d.P.length c2] 26 (0, 0))] [(w.heap.size, .agg #[.slice A1 d.S.length c1, .slice A2 d.P.length c2], d)] (writeDo d 0 (headB 0 0 0)) y wx)
      case first =>
        go_region_with (first
          | (go_at_call 54; (with_reducible refine (spec_head 0 0 0 _ i64_0 i64_0 i64_0).mono ?_); rintro e wx ⟨rfl, hb⟩; (first | (have HL0 := Lib.hid (HL.out.lift hb); (first | (have HY := Lib.hid (keep_blk hb HY.out); obtain ⟨y0, y1, y2, y3⟩ := box4 HY.out; obtain ⟨f0, f1, f2, f3⟩ := box_frozen HY.out; have hyl := block_lt HY.out; have hyb : w.heap.size + 1 < _ := HYB) | skip)) | (have HL0 := Lib.hid (HL.out.drew.lift hb)) | (have HL0 := Lib.hid ((HL.out.made _).lift hb); have HY := Lib.hid (keep_blk hb (heap_alloc_new _ (.cells #[.slice none 0 0, .slice none 0 0, .string ⟨#[]⟩, .int .i64 0] 68))); have HYB : w.heap.size + 1 < _ := hz; obtain ⟨y0, y1, y2, y3⟩ := box4 HY.out; obtain ⟨f0, f1, f2, f3⟩ := box_frozen HY.out; have hyl := block_lt HY.out) | (have HL0 := Lib.hid ((HL.out.made _).drew.lift hb); have HY := Lib.hid (keep_blk hb (made_drew _ (.cells #[.slice none 0 0, .slice none 0 0, .string ⟨#[]⟩, .int .i64 0] 68))); have HYB : w.heap.size + 1 < _ := hz; obtain ⟨y0, y1, y2, y3⟩ := box4 HY.out; obtain ⟨f0, f1, f2, f3⟩ := box_frozen HY.out; have hyl := block_lt HY.out) | (have HL0 := Lib.hid ((HL.out.drew.made _).lift hb); have HY := Lib.hid (keep_blk hb (heap_alloc_new _ (.cells #[.slice none 0 0, .slice none 0 0, .string ⟨#[]⟩, .int .i64 0] 68))); have HYB : w.heap.size + 1 < _ := hz; obtain ⟨y0, y1, y2, y3⟩ := box4 HY.out; obtain ⟨f0, f1, f2, f3⟩ := box_frozen HY.out; have hyl := block_lt HY.out)); clear HL; have HL := Lib.hid HL0.out; clear HL0; obtain ⟨x0, x1, hx⟩ := HL.out.b2 (List.mem_cons_of_mem _ List.mem_cons_self); have hz := block_lt (HL.out.blk _ List.mem_cons_self); clear hb)
          | (go_at_call 53; (with_reducible refine (spec_write _ d 0 (headB 0 0 0) _ (HL.out.at_ List.mem_cons_self) HSM.out HT.out).mono ?_); intro e wx h; obtain ⟨B1, e1, B2, e2, rfl, ho, hb⟩ := h.parts; have HO := Lib.hid (ho.base (base' := w.heap.size + 2) (by first | omega | (simp only [World.size_alloc]; omega))); clear h ho; (first | (have HL0 := Lib.hid (HL.out.lift hb); (first | (have HY := Lib.hid (keep_blk hb HY.out); obtain ⟨y0, y1, y2, y3⟩ := box4 HY.out; obtain ⟨f0, f1, f2, f3⟩ := box_frozen HY.out; have hyl := block_lt HY.out; have hyb : w.heap.size + 1 < _ := HYB) | skip)) | (have HL0 := Lib.hid (HL.out.drew.lift hb)) | (have HL0 := Lib.hid ((HL.out.made _).lift hb); have HY := Lib.hid (keep_blk hb (heap_alloc_new _ (.cells #[.slice none 0 0, .slice none 0 0, .string ⟨#[]⟩, .int .i64 0] 68))); have HYB : w.heap.size + 1 < _ := hz; obtain ⟨y0, y1, y2, y3⟩ := box4 HY.out; obtain ⟨f0, f1, f2, f3⟩ := box_frozen HY.out; have hyl := block_lt HY.out) | (have HL0 := Lib.hid ((HL.out.made _).drew.lift hb); have HY := Lib.hid (keep_blk hb (made_drew _ (.cells #[.slice none 0 0, .slice none 0 0, .string ⟨#[]⟩, .int .i64 0] 68))); have HYB : w.heap.size + 1 < _ := hz; obtain ⟨y0, y1, y2, y3⟩ := box4 HY.out; obtain ⟨f0, f1, f2, f3⟩ := box_frozen HY.out; have hyl := block_lt HY.out) | (have HL0 := Lib.hid ((HL.out.drew.made _).lift hb); have HY := Lib.hid (keep_blk hb (heap_alloc_new _ (.cells #[.slice none 0 0, .slice none 0 0, .string ⟨#[]⟩, .int .i64 0] 68))); have HYB : w.heap.size + 1 < _ := hz; obtain ⟨y0, y1, y2, y3⟩ := box4 HY.out; obtain ⟨f0, f1, f2, f3⟩ := box_frozen HY.out; have hyl := block_lt HY.out)); clear HL; have HL := Lib.hid HL0.out; clear HL0; obtain ⟨x0, x1, hx⟩ := HL.out.b2 (List.mem_cons_of_mem _ List.mem_cons_self); have hz := block_lt (HL.out.blk _ List.mem_cons_self); clear hb)
          | (go_at_call 53; (with_reducible refine (spec_write _ d 0 (headB 0 0 0) _ ((HL.out.made _).at_ List.mem_cons_self) HSM.out HT.out).mono ?_); intro e wx h; obtain ⟨B1, e1, B2, e2, rfl, ho, hb⟩ := h.parts; have HO := Lib.hid (ho.base (base' := w.heap.size + 2) (by first | omega | (simp only [World.size_alloc]; omega))); clear h ho; (first | (have HL0 := Lib.hid (HL.out.lift hb); (first | (have HY := Lib.hid (keep_blk hb HY.out); obtain ⟨y0, y1, y2, y3⟩ := box4 HY.out; obtain ⟨f0, f1, f2, f3⟩ := box_frozen HY.out; have hyl := block_lt HY.out; have hyb : w.heap.size + 1 < _ := HYB) | skip)) | (have HL0 := Lib.hid (HL.out.drew.lift hb)) | (have HL0 := Lib.hid ((HL.out.made _).lift hb); have HY := Lib.hid (keep_blk hb (heap_alloc_new _ (.cells #[.slice none 0 0, .slice none 0 0, .string ⟨#[]⟩, .int .i64 0] 68))); have HYB : w.heap.size + 1 < _ := hz; obtain ⟨y0, y1, y2, y3⟩ := box4 HY.out; obtain ⟨f0, f1, f2, f3⟩ := box_frozen HY.out; have hyl := block_lt HY.out) | (have HL0 := Lib.hid ((HL.out.made _).drew.lift hb); have HY := Lib.hid (keep_blk hb (made_drew _ (.cells #[.slice none 0 0, .slice none 0 0, .string ⟨#[]⟩, .int .i64 0] 68))); have HYB : w.heap.size + 1 < _ := hz; obtain ⟨y0, y1, y2, y3⟩ := box4 HY.out; obtain ⟨f0, f1, f2, f3⟩ := box_frozen HY.out; have hyl := block_lt HY.out) | (have HL0 := Lib.hid ((HL.out.drew.made _).lift hb); have HY := Lib.hid (keep_blk hb (heap_alloc_new _ (.cells #[.slice none 0 0, .slice none 0 0, .string ⟨#[]⟩, .int .i64 0] 68))); have HYB : w.heap.size + 1 < _ := hz; obtain ⟨y0, y1, y2, y3⟩ := box4 HY.out; obtain ⟨f0, f1, f2, f3⟩ := box_frozen HY.out; have hyl := block_lt HY.out)); clear HL; have HL := Lib.hid HL0.out; clear HL0; obtain ⟨x0, x1, hx⟩ := HL.out.b2 (List.mem_cons_of_mem _ List.mem_cons_self); have hz := block_lt (HL.out.blk _ List.mem_cons_self); clear hb)
          | (go_at_call 53; (with_reducible refine (spec_write _ d 0 (headB 0 0 0) _ ((HL.out.drew).at_ List.mem_cons_self) HSM.out HT.out).mono ?_); intro e wx h; obtain ⟨B1, e1, B2, e2, rfl, ho, hb⟩ := h.parts; have HO := Lib.hid (ho.base (base' := w.heap.size + 2) (by first | omega | (simp only [World.size_alloc]; omega))); clear h ho; (first | (have HL0 := Lib.hid (HL.out.lift hb); (first | (have HY := Lib.hid (keep_blk hb HY.out); obtain ⟨y0, y1, y2, y3⟩ := box4 HY.out; obtain ⟨f0, f1, f2, f3⟩ := box_frozen HY.out; have hyl := block_lt HY.out; have hyb : w.heap.size + 1 < _ := HYB) | skip)) | (have HL0 := Lib.hid (HL.out.drew.lift hb)) | (have HL0 := Lib.hid ((HL.out.made _).lift hb); have HY := Lib.hid (keep_blk hb (heap_alloc_new _ (.cells #[.slice none 0 0, .slice none 0 0, .string ⟨#[]⟩, .int .i64 0] 68))); have HYB : w.heap.size + 1 < _ := hz; obtain ⟨y0, y1, y2, y3⟩ := box4 HY.out; obtain ⟨f0, f1, f2, f3⟩ := box_frozen HY.out; have hyl := block_lt HY.out) | (have HL0 := Lib.hid ((HL.out.made _).drew.lift hb); have HY := Lib.hid (keep_blk hb (made_drew _ (.cells #[.slice none 0 0, .slice none 0 0, .string ⟨#[]⟩, .int .i64 0] 68))); have HYB : w.heap.size + 1 < _ := hz; obtain ⟨y0, y1, y2, y3⟩ := box4 HY.out; obtain ⟨f0, f1, f2, f3⟩ := box_frozen HY.out; have hyl := block_lt HY.out) | (have HL0 := Lib.hid ((HL.out.drew.made _).lift hb); have HY := Lib.hid (keep_blk hb (heap_alloc_new _ (.cells #[.slice none 0 0, .slice none 0 0, .string ⟨#[]⟩, .int .i64 0] 68))); have HYB : w.heap.size + 1 < _ := hz; obtain ⟨y0, y1, y2, y3⟩ := box4 HY.out; obtain ⟨f0, f1, f2, f3⟩ := box_frozen HY.out; have hyl := block_lt HY.out)); clear HL; have HL := Lib.hid HL0.out; clear HL0; obtain ⟨x0, x1, hx⟩ := HL.out.b2 (List.mem_cons_of_mem _ List.mem_cons_self); have hz := block_lt (HL.out.blk _ List.mem_cons_self); clear hb))
        all_goals
          go_wp2_with fail
          go_meet
          first
            | (with_reducible exact wr_alloc HL.out hz HO.out)
            | (with_reducible exact wr_set HL.out HY.out HYB (lt_two HYB) (le_one HYB) HO.out)
      case rest =>
        clear HL x0 x1 hx hz
        obtain ⟨b, s, p, rfl, hb0, hL, _⟩ := hcut
        have HL := Lib.hid hL
        clear hL
        obtain ⟨y0, y1, y2, y3, hyl⟩ := HL.out.b4 List.mem_cons_self
        by_cases hc : (writeDo d 0 (headB 0 0 0)).code = 0
        · have HE := Lib.hid (format_ok hR h3 hc)
          have HRx := Lib.hid (write_right 0 (headB 0 0 0) hc)
          have HZ := Lib.hid (HL.out.blk _ (List.mem_cons_of_mem _ List.mem_cons_self))
          go_wp2_with fail
          refine (spec_flush _ (writeDo d 0 (headB 0 0 0)).dk _ (HL.out.at_ List.mem_cons_self) (right_small' HRx.out)).mono ?_
          intro e w5 h
          obtain ⟨B1, e1, B2, e2, rfl, ho, hb⟩ := h.parts
          have HB0 := Lib.hid (show w.heap.size + 2 ≤ wc.heap.size by have := block_lt HZ.out; omega)
          replace HL := Lib.hid (HL.out.lift hb)
          replace HZ := Lib.hid (keep_blk hb HZ.out)
          have HO := Lib.hid ho
          clear h ho hb y0 y1 y2 y3 hyl
          obtain ⟨z0, z1, z2, z3, z4⟩ := box5 HZ.out
          obtain ⟨k0, k1, k2, k3⟩ := box_frozen HZ.out
          have k4 : w5.frozen? ⟨w.heap.size + 1, 4, none⟩ = false := block_free HZ.out 4
          have hz := block_lt HZ.out
          go_wp2
          refine bodyPost_ret (v := .agg #[.slice B1 (flushDo (writeDo d 0 (headB 0 0 0)).dk).dk.S.length e1, .slice B2 (flushDo (writeDo d 0 (headB 0 0 0)).dk).dk.P.length e2, .string ⟨#[]⟩, .int .i64 0, .int .i64 (flushDo (writeDo d 0 (headB 0 0 0)).dk).code]) (by simp [results, Tryz.results16, go_sem, z0, z1, z2, z3, z4, hz]) rfl ?_
          rw [HE.out]
          exact ⟨_, rfl, ao_done_made (o := ⟨(flushDo (writeDo d 0 (headB 0 0 0)).dk).dk, ⟨#[]⟩, 0, (flushDo (writeDo d 0 (headB 0 0 0)).dk).code⟩) HL.out HO.out HB0.out _ _ _ _ _ _⟩
        · have HE := Lib.hid (format_ill hR h3 hc)
          have HZ := Lib.hid (HL.out.blk _ (List.mem_cons_of_mem _ List.mem_cons_self))
          go_wp2_with fail
          refine (spec_illao (writeDo d 0 (headB 0 0 0)).code _).mono ?_
          intro e w5 h
          obtain ⟨B1, e1, B2, e2, rfl, ho, hb⟩ := h.parts
          have HB0 := Lib.hid (show w.heap.size + 2 ≤ wc.heap.size by have := block_lt HZ.out; omega)
          replace HL := Lib.hid (HL.out.lift hb)
          replace HZ := Lib.hid (keep_blk hb HZ.out)
          have HO := Lib.hid ho
          clear h ho hb y0 y1 y2 y3 hyl
          obtain ⟨z0, z1, z2, z3, z4⟩ := box5 HZ.out
          obtain ⟨k0, k1, k2, k3⟩ := box_frozen HZ.out
          have k4 : w5.frozen? ⟨w.heap.size + 1, 4, none⟩ = false := block_free HZ.out 4
          go_wp2
          refine bodyPost_ret (v := .agg #[.slice B1 (illAo (writeDo d 0 (headB 0 0 0)).code).dk.S.length e1, .slice B2 (illAo (writeDo d 0 (headB 0 0 0)).code).dk.P.length e2, .string (illAo (writeDo d 0 (headB 0 0 0)).code).text, .int .i64 (illAo (writeDo d 0 (headB 0 0 0)).code).gen, .int .i64 (illAo (writeDo d 0 (headB 0 0 0)).code).code]) (by simp [results, Tryz.results16, go_sem, z0, z1, z2, z3, z4]) rfl ?_
          rw [HE.out]
          exact ⟨_, rfl, ao_done HL.out HO.out HB0.out _ _ _ _ _⟩
  · rw [rightB_no hR]
    have HE := Lib.hid (format_form hR)
    go_wp2_with fail
    refine (spec_illao 1 _).mono ?_
    intro e w2 h
    obtain ⟨B1, e1, B2, e2, rfl, ho, hb⟩ := h.parts
    replace HL := Lib.hid (HL.out.lift hb)
    replace HZ := Lib.hid (keep_blk hb HZ.out)
    have HO := Lib.hid ho
    clear h ho hb x0 x1
    obtain ⟨z0, z1, z2, z3, z4⟩ := box5 HZ.out
    obtain ⟨k0, k1, k2, k3⟩ := box_frozen HZ.out
    have k4 : w2.frozen? ⟨w.heap.size + 1, 4, none⟩ = false := block_free HZ.out 4
    go_wp2
    refine bodyPost_ret (v := .agg #[.slice B1 (illAo 1).dk.S.length e1, .slice B2 (illAo 1).dk.P.length e2, .string (illAo 1).text, .int .i64 (illAo 1).gen, .int .i64 (illAo 1).code]) (by simp [results, Tryz.results16, go_sem, z0, z1, z2, z3, z4]) rfl ?_
    rw [HE.out]
    exact ⟨_, rfl, ao_done HL.out HO.out (by omega) _ _ _ _ _⟩

end Go.Proofs.YthchlfllcnlmjaaGreatDoor
