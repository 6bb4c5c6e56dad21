/-
  Contract of the program's AreaFormat.
-/
import Derived.Test.YthchlfllcnlmjaaGreatDoorFormatS
namespace Go.Proofs.YthchlfllcnlmjaaGreatDoor
open Go.ChangeShapes Go.WideShapes Go.ChangeAt Go.RowKit

set_option maxRecDepth 100000 in
set_option maxHeartbeats 4000000 in
theorem impl_format (v : Value) (d : Dk) (w : World) {a0 a1 a2 a3 : Addr} (hv : DkAt w w.heap.size v d) (hd : Small d) (hE : Sents w a0 a1 a2 a3) :
    Calls Tryz.prog 12 #[v] w (OwnsAo w (formatAo d)) := by
  obtain ⟨vs, vp, rfl, hs, hp⟩ := hv
  obtain ⟨A1, c1, rfl⟩ := hs.form
  obtain ⟨A2, c2, rfl⟩ := hp.form
  have HL := Lib.hid (led_two w (.cells #[.slice A1 d.S.length c1, .slice A2 d.P.length c2] 26) (.cells #[.slice none 0 0, .slice none 0 0, .string ⟨#[]⟩, .int .i64 0, .int .i64 0] 31) (d := d) ⟨_, _, rfl, hs, hp⟩)
  have HSM := Lib.hid hd
  have HE0 := Lib.hid (hE.lift (((Below.refl w.heap.size w).alloc (Nat.le_refl _) (.cells #[.slice A1 d.S.length c1, .slice A2 d.P.length c2] 26)).alloc (by simp only [World.size_alloc]; omega) (.cells #[.slice none 0 0, .slice none 0 0, .string ⟨#[]⟩, .int .i64 0, .int .i64 0] 31)))
  have hd1 := hd.1; have hd2 := hd.2.2.1
  clear hs hp hd hE
  go_enter Tryz.func12, Tryz.ntmps12
  go_wp2_with fail
  refine (impl_right _ d _ (HL.out.at_ List.mem_cons_self) (by omega) (by omega)).mono ?_
  rintro e w1 ⟨rfl, hb⟩
  replace HL := Lib.hid (HL.out.lift hb)
  replace HE0 := Lib.hid (HE0.out.lift hb)
  clear hb
  have g0 := HE0.out.s0.cell; have g3 := HE0.out.s3.cell
  obtain ⟨x0, x1, hx⟩ := HL.out.b2 (List.mem_cons_of_mem _ List.mem_cons_self)
  have HZ := Lib.hid (HL.out.blk _ List.mem_cons_self)
  have hz := block_lt HZ.out
  by_cases hR : Right d
  · rw [rightB_yes hR]
    by_cases h3 : d.S.length < 3
    · have HE := Lib.hid (format_full hR h3)
      have h3' : (d.S.length : Int) < 3 := by omega
      go_wp2_with fail
      refine (fault_noroom _ HE0.out).mono ?_
      intro e w2 h
      obtain ⟨B1, e1, B2, e2, rfl, ho, hb⟩ := h.parts
      replace HL := Lib.hid (HL.out.lift hb)
      replace HZ := Lib.hid (keep_blk hb HZ.out)
      have HO := Lib.hid ho
      clear h ho hb x0 x1
      obtain ⟨z0, z1, z2, z3, z4⟩ := box5 HZ.out
      obtain ⟨k0, k1, k2, k3⟩ := box_frozen HZ.out
      have k4 : w2.frozen? ⟨w.heap.size + 1, 4, none⟩ = false := block_free HZ.out 4
      go_wp2
      refine bodyPost_ret (v := .agg #[.slice B1 (illAo 9).dk.S.length e1, .slice B2 (illAo 9).dk.P.length e2, .string (illAo 9).text, .int .i64 (illAo 9).gen, .int .i64 (illAo 9).code]) (by simp [results, Tryz.results12, go_sem, z0, z1, z2, z3, z4]) rfl ?_
      rw [HE.out]
      exact ⟨_, rfl, ao_done HL.out HO.out (by omega) _ _ _ _ _⟩
    · have h3' : ¬ (d.S.length : Int) < 3 := by omega
      have HT := Lib.hid (show (headB 0 0 0).size ≤ 1048576 by have := head_size 0 0 0; omega)
      clear HZ
      go_upto_region 5 with fail
      go_cut [3] (fun y wx => Wr w [(w.heap.size + 1, .cells #[.slice none 0 0, .slice none 0 0, .string ⟨#[]⟩, .int .i64 0, .int .i64 0] 31 (0, 0)), (w.heap.size, .cells #[.slice A1 d.S.length c1, .slice A2 d.P.length c2] 26 (0, 0))] [(w.heap.size, .agg #[.slice A1 d.S.length c1, .slice A2 d.P.length c2], d)] (writeDo d 0 (headB 0 0 0)) y wx)
      case first =>
        go_region_with (first
          | (go_at_call 43; (with_reducible refine (impl_sealed 0 0 0 _ i64_0 i64_0 i64_0).mono ?_); rintro e wx ⟨rfl, hb⟩; (first | (with_reducible have HL0 := Lib.hid (HL.out.lift hb); (first | (have HY := Lib.hid (keep_blk hb HY.out); obtain ⟨y0, y1, y2, y3⟩ := box4 HY.out; obtain ⟨f0, f1, f2, f3⟩ := box_frozen HY.out; have hyl := block_lt HY.out; have hyb : w.heap.size + 1 < _ := HYB) | skip)) | (with_reducible have HL0 := Lib.hid (HL.out.drew.lift hb)) | (have HL0 := Lib.hid ((HL.out.made _).lift hb); have HY := Lib.hid (keep_blk hb (heap_alloc_new _ (.cells #[.slice none 0 0, .slice none 0 0, .string ⟨#[]⟩, .int .i64 0] 68))); have HYB : w.heap.size + 1 < _ := hz; obtain ⟨y0, y1, y2, y3⟩ := box4 HY.out; obtain ⟨f0, f1, f2, f3⟩ := box_frozen HY.out; have hyl := block_lt HY.out) | (have HL0 := Lib.hid ((HL.out.made _).drew.lift hb); have HY := Lib.hid (keep_blk hb (made_drew _ (.cells #[.slice none 0 0, .slice none 0 0, .string ⟨#[]⟩, .int .i64 0] 68))); have HYB : w.heap.size + 1 < _ := hz; obtain ⟨y0, y1, y2, y3⟩ := box4 HY.out; obtain ⟨f0, f1, f2, f3⟩ := box_frozen HY.out; have hyl := block_lt HY.out) | (have HL0 := Lib.hid ((HL.out.drew.made _).lift hb); have HY := Lib.hid (keep_blk hb (heap_alloc_new _ (.cells #[.slice none 0 0, .slice none 0 0, .string ⟨#[]⟩, .int .i64 0] 68))); have HYB : w.heap.size + 1 < _ := hz; obtain ⟨y0, y1, y2, y3⟩ := box4 HY.out; obtain ⟨f0, f1, f2, f3⟩ := box_frozen HY.out; have hyl := block_lt HY.out)); clear HL; have HL := Lib.hid HL0.out; clear HL0; obtain ⟨x0, x1, hx⟩ := HL.out.b2 (List.mem_cons_of_mem _ List.mem_cons_self); have hz := block_lt (HL.out.blk _ List.mem_cons_self); clear hb)
          | (go_at_call 42; (with_reducible refine (impl_write _ d 0 (headB 0 0 0) _ (HL.out.at_ List.mem_cons_self) HSM.out HT.out).mono ?_); intro e wx h; obtain ⟨B1, e1, B2, e2, rfl, ho, hb⟩ := h.parts; have HO := Lib.hid (ho.base (base' := w.heap.size + 2) (by first | omega | (simp only [World.size_alloc]; omega))); clear h ho; (first | (with_reducible have HL0 := Lib.hid (HL.out.lift hb); (first | (have HY := Lib.hid (keep_blk hb HY.out); obtain ⟨y0, y1, y2, y3⟩ := box4 HY.out; obtain ⟨f0, f1, f2, f3⟩ := box_frozen HY.out; have hyl := block_lt HY.out; have hyb : w.heap.size + 1 < _ := HYB) | skip)) | (with_reducible have HL0 := Lib.hid (HL.out.drew.lift hb)) | (have HL0 := Lib.hid ((HL.out.made _).lift hb); have HY := Lib.hid (keep_blk hb (heap_alloc_new _ (.cells #[.slice none 0 0, .slice none 0 0, .string ⟨#[]⟩, .int .i64 0] 68))); have HYB : w.heap.size + 1 < _ := hz; obtain ⟨y0, y1, y2, y3⟩ := box4 HY.out; obtain ⟨f0, f1, f2, f3⟩ := box_frozen HY.out; have hyl := block_lt HY.out) | (have HL0 := Lib.hid ((HL.out.made _).drew.lift hb); have HY := Lib.hid (keep_blk hb (made_drew _ (.cells #[.slice none 0 0, .slice none 0 0, .string ⟨#[]⟩, .int .i64 0] 68))); have HYB : w.heap.size + 1 < _ := hz; obtain ⟨y0, y1, y2, y3⟩ := box4 HY.out; obtain ⟨f0, f1, f2, f3⟩ := box_frozen HY.out; have hyl := block_lt HY.out) | (have HL0 := Lib.hid ((HL.out.drew.made _).lift hb); have HY := Lib.hid (keep_blk hb (heap_alloc_new _ (.cells #[.slice none 0 0, .slice none 0 0, .string ⟨#[]⟩, .int .i64 0] 68))); have HYB : w.heap.size + 1 < _ := hz; obtain ⟨y0, y1, y2, y3⟩ := box4 HY.out; obtain ⟨f0, f1, f2, f3⟩ := box_frozen HY.out; have hyl := block_lt HY.out)); clear HL; have HL := Lib.hid HL0.out; clear HL0; obtain ⟨x0, x1, hx⟩ := HL.out.b2 (List.mem_cons_of_mem _ List.mem_cons_self); have hz := block_lt (HL.out.blk _ List.mem_cons_self); clear hb)
          | (go_at_call 42; (with_reducible refine (impl_write _ d 0 (headB 0 0 0) _ ((HL.out.made _).at_ List.mem_cons_self) HSM.out HT.out).mono ?_); intro e wx h; obtain ⟨B1, e1, B2, e2, rfl, ho, hb⟩ := h.parts; have HO := Lib.hid (ho.base (base' := w.heap.size + 2) (by first | omega | (simp only [World.size_alloc]; omega))); clear h ho; (first | (with_reducible have HL0 := Lib.hid (HL.out.lift hb); (first | (have HY := Lib.hid (keep_blk hb HY.out); obtain ⟨y0, y1, y2, y3⟩ := box4 HY.out; obtain ⟨f0, f1, f2, f3⟩ := box_frozen HY.out; have hyl := block_lt HY.out; have hyb : w.heap.size + 1 < _ := HYB) | skip)) | (with_reducible have HL0 := Lib.hid (HL.out.drew.lift hb)) | (have HL0 := Lib.hid ((HL.out.made _).lift hb); have HY := Lib.hid (keep_blk hb (heap_alloc_new _ (.cells #[.slice none 0 0, .slice none 0 0, .string ⟨#[]⟩, .int .i64 0] 68))); have HYB : w.heap.size + 1 < _ := hz; obtain ⟨y0, y1, y2, y3⟩ := box4 HY.out; obtain ⟨f0, f1, f2, f3⟩ := box_frozen HY.out; have hyl := block_lt HY.out) | (have HL0 := Lib.hid ((HL.out.made _).drew.lift hb); have HY := Lib.hid (keep_blk hb (made_drew _ (.cells #[.slice none 0 0, .slice none 0 0, .string ⟨#[]⟩, .int .i64 0] 68))); have HYB : w.heap.size + 1 < _ := hz; obtain ⟨y0, y1, y2, y3⟩ := box4 HY.out; obtain ⟨f0, f1, f2, f3⟩ := box_frozen HY.out; have hyl := block_lt HY.out) | (have HL0 := Lib.hid ((HL.out.drew.made _).lift hb); have HY := Lib.hid (keep_blk hb (heap_alloc_new _ (.cells #[.slice none 0 0, .slice none 0 0, .string ⟨#[]⟩, .int .i64 0] 68))); have HYB : w.heap.size + 1 < _ := hz; obtain ⟨y0, y1, y2, y3⟩ := box4 HY.out; obtain ⟨f0, f1, f2, f3⟩ := box_frozen HY.out; have hyl := block_lt HY.out)); clear HL; have HL := Lib.hid HL0.out; clear HL0; obtain ⟨x0, x1, hx⟩ := HL.out.b2 (List.mem_cons_of_mem _ List.mem_cons_self); have hz := block_lt (HL.out.blk _ List.mem_cons_self); clear hb)
          | (go_at_call 42; (with_reducible refine (impl_write _ d 0 (headB 0 0 0) _ ((HL.out.drew).at_ List.mem_cons_self) HSM.out HT.out).mono ?_); intro e wx h; obtain ⟨B1, e1, B2, e2, rfl, ho, hb⟩ := h.parts; have HO := Lib.hid (ho.base (base' := w.heap.size + 2) (by first | omega | (simp only [World.size_alloc]; omega))); clear h ho; (first | (with_reducible have HL0 := Lib.hid (HL.out.lift hb); (first | (have HY := Lib.hid (keep_blk hb HY.out); obtain ⟨y0, y1, y2, y3⟩ := box4 HY.out; obtain ⟨f0, f1, f2, f3⟩ := box_frozen HY.out; have hyl := block_lt HY.out; have hyb : w.heap.size + 1 < _ := HYB) | skip)) | (with_reducible have HL0 := Lib.hid (HL.out.drew.lift hb)) | (have HL0 := Lib.hid ((HL.out.made _).lift hb); have HY := Lib.hid (keep_blk hb (heap_alloc_new _ (.cells #[.slice none 0 0, .slice none 0 0, .string ⟨#[]⟩, .int .i64 0] 68))); have HYB : w.heap.size + 1 < _ := hz; obtain ⟨y0, y1, y2, y3⟩ := box4 HY.out; obtain ⟨f0, f1, f2, f3⟩ := box_frozen HY.out; have hyl := block_lt HY.out) | (have HL0 := Lib.hid ((HL.out.made _).drew.lift hb); have HY := Lib.hid (keep_blk hb (made_drew _ (.cells #[.slice none 0 0, .slice none 0 0, .string ⟨#[]⟩, .int .i64 0] 68))); have HYB : w.heap.size + 1 < _ := hz; obtain ⟨y0, y1, y2, y3⟩ := box4 HY.out; obtain ⟨f0, f1, f2, f3⟩ := box_frozen HY.out; have hyl := block_lt HY.out) | (have HL0 := Lib.hid ((HL.out.drew.made _).lift hb); have HY := Lib.hid (keep_blk hb (heap_alloc_new _ (.cells #[.slice none 0 0, .slice none 0 0, .string ⟨#[]⟩, .int .i64 0] 68))); have HYB : w.heap.size + 1 < _ := hz; obtain ⟨y0, y1, y2, y3⟩ := box4 HY.out; obtain ⟨f0, f1, f2, f3⟩ := box_frozen HY.out; have hyl := block_lt HY.out)); clear HL; have HL := Lib.hid HL0.out; clear HL0; obtain ⟨x0, x1, hx⟩ := HL.out.b2 (List.mem_cons_of_mem _ List.mem_cons_self); have hz := block_lt (HL.out.blk _ List.mem_cons_self); clear hb))
        all_goals
          go_wp2_with fail
          go_meet
          first
            | (with_reducible exact wr_alloc HL.out hz HO.out)
            | (with_reducible exact wr_set HL.out HY.out HYB (lt_two HYB) (le_one HYB) HO.out)
      case rest =>
        clear HL x0 x1 hx hz g0 g3 HE0
        obtain ⟨b, s, p, rfl, hb0, hL, hO⟩ := hcut
        obtain ⟨E1, u1, E2, u2, rfl, rfl⟩ := hO.forms
        have HOX := Lib.hid hO
        clear hO
        have HL := Lib.hid hL
        clear hL
        obtain ⟨y0, y1, y2, y3, hyl⟩ := HL.out.b4 List.mem_cons_self
        have HY := Lib.hid (HL.out.blk _ List.mem_cons_self)
        have HZ := Lib.hid (HL.out.blk _ (List.mem_cons_of_mem _ List.mem_cons_self))
        by_cases hc : (writeDo d 0 (headB 0 0 0)).code = 0
        · have HE := Lib.hid (format_ok hR h3 hc)
          have HRx := Lib.hid (write_right 0 (headB 0 0 0) hc)
          go_wp2_with fail
          refine (impl_flush _ (writeDo d 0 (headB 0 0 0)).dk _ (HL.out.at_ List.mem_cons_self) (right_small' HRx.out)).mono ?_
          intro e w5 h
          obtain ⟨B1, e1, B2, e2, rfl, ho, hb⟩ := h.parts
          have HB0 := Lib.hid (show w.heap.size + 2 ≤ wc.heap.size by have := block_lt HZ.out; omega)
          have HBB := Lib.hid (block_lt HY.out)
          replace HL := Lib.hid (HL.out.lift hb)
          replace HZ := Lib.hid (keep_blk hb HZ.out)
          replace HY := Lib.hid (keep_blk hb HY.out)
          have HO := Lib.hid ho
          clear h ho hb y0 y1 y2 y3 hyl
          obtain ⟨y0, y1, y2, y3⟩ := box4 HY.out
          obtain ⟨f0, f1, f2, f3⟩ := box_frozen HY.out
          obtain ⟨z0, z1, z2, z3, z4⟩ := box5 HZ.out
          obtain ⟨k0, k1, k2, k3⟩ := box_frozen HZ.out
          have k4 : w5.frozen? ⟨w.heap.size + 1, 4, none⟩ = false := block_free HZ.out 4
          have hne : ¬ b = w.heap.size + 1 := by omega
          have hne' : ¬ w.heap.size + 1 = b := by omega
          go_wp2
          refine bodyPost_ret (v := .agg #[.slice B1 (flushDo (writeDo d 0 (headB 0 0 0)).dk).dk.S.length e1, .slice B2 (flushDo (writeDo d 0 (headB 0 0 0)).dk).dk.P.length e2, .string ⟨#[]⟩, .int .i64 0, .int .i64 (flushDo (writeDo d 0 (headB 0 0 0)).dk).code]) (by simp [results, Tryz.results12, go_sem, z0, z1, z2, z3, z4]) rfl ?_
          rw [HE.out]
          have hO2 := ((((HO.out.far (p := ⟨b, 0, none⟩) HBB.out (.slice B1 (flushDo (writeDo d 0 (headB 0 0 0)).dk).dk.S.length e1)).far (p := ⟨b, 1, none⟩) HBB.out (.slice B2 (flushDo (writeDo d 0 (headB 0 0 0)).dk).dk.P.length e2)).far (p := ⟨b, 2, none⟩) HBB.out (.string (flushDo (writeDo d 0 (headB 0 0 0)).dk).data)).far (p := ⟨b, 3, none⟩) HBB.out (.int .i64 (flushDo (writeDo d 0 (headB 0 0 0)).dk).code))
          have hB2 := (((HL.out.bel.setCell (p := ⟨b, 0, none⟩) (by simp only; omega) (.slice B1 (flushDo (writeDo d 0 (headB 0 0 0)).dk).dk.S.length e1)).setCell (p := ⟨b, 1, none⟩) (by simp only; omega) (.slice B2 (flushDo (writeDo d 0 (headB 0 0 0)).dk).dk.P.length e2)).setCell (p := ⟨b, 2, none⟩) (by simp only; omega) (.string (flushDo (writeDo d 0 (headB 0 0 0)).dk).data)).setCell (p := ⟨b, 3, none⟩) (by simp only; omega) (.int .i64 (flushDo (writeDo d 0 (headB 0 0 0)).dk).code)
          exact ⟨_, rfl, ao_done' (o := ⟨(flushDo (writeDo d 0 (headB 0 0 0)).dk).dk, ⟨#[]⟩, 0, (flushDo (writeDo d 0 (headB 0 0 0)).dk).code⟩) hB2 hO2 HB0.out _ _ _ _ _⟩
        · have HE := Lib.hid (format_ill hR h3 hc)
          have hill := write_ill hc
          have hdk : (writeDo d 0 (headB 0 0 0)).dk = ⟨[], []⟩ := by rw [hill]; rfl
          obtain ⟨z0, z1, z2, z3, z4⟩ := box5 HZ.out
          obtain ⟨k0, k1, k2, k3⟩ := box_frozen HZ.out
          have k4 : wc.frozen? ⟨w.heap.size + 1, 4, none⟩ = false := block_free HZ.out 4
          have HIL := Lib.hid (show illAo (writeDo d 0 (headB 0 0 0)).code = ⟨(writeDo d 0 (headB 0 0 0)).dk, ⟨#[]⟩, 0, (writeDo d 0 (headB 0 0 0)).code⟩ by rw [hdk]; rfl)
          clear hill hdk
          go_wp2
          refine bodyPost_ret (v := .agg #[.slice E1 (writeDo d 0 (headB 0 0 0)).dk.S.length u1, .slice E2 (writeDo d 0 (headB 0 0 0)).dk.P.length u2, .string ⟨#[]⟩, .int .i64 0, .int .i64 (writeDo d 0 (headB 0 0 0)).code]) (by simp [results, Tryz.results12, go_sem, z0, z1, z2, z3, z4]) rfl ?_
          rw [HE.out]
          refine HIL.out ▸ ?_
          exact ⟨_, rfl, ao_done' (o := ⟨(writeDo d 0 (headB 0 0 0)).dk, ⟨#[]⟩, 0, (writeDo d 0 (headB 0 0 0)).code⟩) HL.out.bel HOX.out (Nat.le_refl _) _ _ _ _ _⟩
  · rw [rightB_no hR]
    have HE := Lib.hid (format_form hR)
    go_wp2_with fail
    refine (fault_notright _ HE0.out).mono ?_
    intro e w2 h
    obtain ⟨B1, e1, B2, e2, rfl, ho, hb⟩ := h.parts
    replace HL := Lib.hid (HL.out.lift hb)
    replace HZ := Lib.hid (keep_blk hb HZ.out)
    have HO := Lib.hid ho
    clear h ho hb x0 x1
    obtain ⟨z0, z1, z2, z3, z4⟩ := box5 HZ.out
    obtain ⟨k0, k1, k2, k3⟩ := box_frozen HZ.out
    have k4 : w2.frozen? ⟨w.heap.size + 1, 4, none⟩ = false := block_free HZ.out 4
    go_wp2
    refine bodyPost_ret (v := .agg #[.slice B1 (illAo 1).dk.S.length e1, .slice B2 (illAo 1).dk.P.length e2, .string (illAo 1).text, .int .i64 (illAo 1).gen, .int .i64 (illAo 1).code]) (by simp [results, Tryz.results12, go_sem, z0, z1, z2, z3, z4]) rfl ?_
    rw [HE.out]
    exact ⟨_, rfl, ao_done HL.out HO.out (by omega) _ _ _ _ _⟩

end Go.Proofs.YthchlfllcnlmjaaGreatDoor
