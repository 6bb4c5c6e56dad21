/-
  What is handed round of a doc: contracts of the model.
-/
import Derived.Test.YtaggmcdfggmlhaaDfI
namespace Go.Proofs.Ytaggmcdfggmlhaa
set_option linter.unusedSimpArgs false
set_option linter.unusedVariables false
open Go.ChangeShapes Go.WideShapes Go.ChangeAt Go.RowKit

set_option maxRecDepth 100000 in
set_option maxHeartbeats 16000000 in
theorem spec_diff (v vl : Value) (d : Dc) (l : List Nm) (w : World) (hv : DcAt w w.heap.size v d) (hm : Sl w w.heap.size 2 encN vl l) (hl : l.length ≤ 140737488351232) (h60 : d.X.length ≤ 60) (h20 : d.H.length ≤ 20) (hr : Rise nmI d.H) :
    Calls Try.prog 97 #[v, vl] w (OwnsUp w ⟨diffX d.X l d.X.length, diffH d.X d.H d.X.length⟩) := by
  have HNI := Lib.hid (fun n W (hb : Below w.heap.size w W) => spec_of vl l n W ((hm.below hb).more hb.size) hl)
  obtain ⟨vx, vp, vh, rfl, hx, hp, hh⟩ := hv
  obtain ⟨A1, k1, rfl⟩ := hx.form; obtain ⟨A2, k2, rfl⟩ := hp.form; obtain ⟨A3, k3, rfl⟩ := hh.form
  obtain ⟨AM, kM, rfl⟩ := hm.form
  have HVX := Lib.hid hx; have HVH := Lib.hid hh
  clear hx hp hh hm
  have HRX := Lib.hid (diffX_rise d.X l)
  have HRH := Lib.hid (diffH_rise d.X d.H hr)
  clear hr
  have hL := ((Lg.start w).alloc (.cells #[.slice A1 d.X.length k1, .slice A2 d.P.length k2, .slice A3 d.H.length k3] 29)).alloc (.cells #[.slice none 0 0, .slice none 0 0] 37)
  simp only [World.size_alloc] at hL
  have HL := Lib.hid hL; clear hL
  go_enter Try.func97, Try.ntmps97
  have HOE := Lib.hid (own_empty (heap_alloc_new ((w.alloc (.cells #[.slice A1 d.X.length k1, .slice A2 d.P.length k2, .slice A3 d.H.length k3] 29)).alloc (.cells #[.slice none 0 0, .slice none 0 0] 37)) (.cells #[] 89)) w.heap.size 2 (by simp; omega))
  have HSH := Lib.hid (HVH.out.below (ball HL.out.bel (.cells #[] 89) HL.out.bel.size))
  go_wp2_with (at_builtin; refine list_append_sl idType _ rfl _ _ rfl w.heap.size (.slice (some ⟨w.heap.size + 1 + 1, 0, none⟩) 0 0) 0 [] rfl (by have h := HOE.out; simpa using h) w.heap.size encN _ d.H rfl HSH.out encN_len encN_one (by first | (unfold maxLen; omega) | (simp; unfold maxLen; omega)) (by first | omega | (simp; done) | (simp; omega)) (by first | omega | (simp; done) | (simp; omega)) ?_)
  intro v3 w3 g3
  obtain ⟨A4, c4, rfl⟩ := g3.form
  have ho3 : Ow w3 w.heap.size 89 2 encN (.slice A4 d.H.length c4) d.H := by
    unfold Ow
    have h := g3.1
    simpa using h
  have hb3 := g3.below (B := w.heap.size + 1 + 1) (fun g hgg => by simp only [Value.ownBlock, Option.some.injEq] at hgg; omega) (by simp)
  have hb4 : Below (w.heap.size + 1 + 1) ((w.alloc (.cells #[.slice A1 d.X.length k1, .slice A2 d.P.length k2, .slice A3 d.H.length k3] 29)).alloc (.cells #[.slice none 0 0, .slice none 0 0] 37)) w3 := Below.trans ((Below.refl _ _).alloc (by simp) _) hb3
  have hz3 := hb4.size
  simp only [World.size_alloc] at hz3
  have hk0 : w3.heap[w.heap.size]? = some (.cells #[.slice A1 d.X.length k1, .slice A2 d.P.length k2, .slice A3 d.H.length k3] 29 (0, 0)) := by rw [hb4.block _ (by omega)]; exact HL.out.blk _ (List.mem_cons_of_mem _ List.mem_cons_self)
  have hk1 : w3.heap[w.heap.size + 1]? = some (.cells #[.slice none 0 0, .slice none 0 0] 37 (0, 0)) := by rw [hb4.block _ (by omega)]; exact HL.out.blk _ List.mem_cons_self
  have hbl : Below w.heap.size w w3 := HL.out.bel.trans (hb4.mono (by omega))
  have HUL := Lib.hid (show w.heap.size + 1 < w3.heap.size by omega)
  have HL1 := Lib.hid (show Lg w (w3.alloc (.cells #[.slice none 0 0, .slice A4 d.H.length c4] 37)) [(w3.heap.size, .cells #[.slice none 0 0, .slice A4 d.H.length c4] 37 (0, 0)), (w.heap.size, .cells #[.slice A1 d.X.length k1, .slice A2 d.P.length k2, .slice A3 d.H.length k3] 29 (0, 0)), (w.heap.size + 1, .cells #[.slice none 0 0, .slice none 0 0] 37 (0, 0))] [fun W => Ow W w.heap.size 91 8 encM (.slice none 0 0) [], fun W => Ow W w.heap.size 89 2 encN (.slice A4 d.H.length c4) d.H] from
    (((Lg.mk hbl (fun p hp => by simp only [List.mem_cons, List.not_mem_nil, or_false] at hp; rcases hp with rfl | rfl; exact hk0; exact hk1) (fun p hp => absurd hp (by simp)) (fun p hp => absurd hp (by simp))).add ho3 (fun _ _ hb h => Ow.lift h hb)).add (World.ownsRow_nil _ _ _ _) (fun _ _ hb h => Ow.lift h hb)).alloc _)
  clear g3 ho3 hb3 hb4 hz3 hk0 hk1 hbl HOE HSH HL
  go_wp2
  go_loopw [6] (fun i wr => ∃ (k : Nat) (B1 : Option Addr) (c1 : Nat) (B2 : Option Addr) (c2 : Nat), k ≤ d.X.length ∧ i = .int .i64 k ∧
    Lg w wr [(w3.heap.size, .cells #[.slice B1 (diffX d.X l k).length c1, .slice B2 (diffH d.X d.H k).length c2] 37 (0, 0)), (w.heap.size, .cells #[.slice A1 d.X.length k1, .slice A2 d.P.length k2, .slice A3 d.H.length k3] 29 (0, 0)), (w.heap.size + 1, .cells #[.slice none 0 0, .slice none 0 0] 37 (0, 0))] [fun W => Ow W w.heap.size 91 8 encM (.slice B1 (diffX d.X l k).length c1) (diffX d.X l k), fun W => Ow W w.heap.size 89 2 encN (.slice B2 (diffH d.X d.H k).length c2) (diffH d.X d.H k)]) (fun i _ => d.X.length - (intOf i).toNat)
  case atStart => exact ⟨0, _, _, _, _, Nat.zero_le _, rfl, HL1.out⟩
  case round =>
    clear HL1
    obtain ⟨k, B1, c1, B2, c2, hk, rfl, hL⟩ := hrel
    obtain ⟨ub, hub⟩ : ∃ ub, ub = w3.heap.size := ⟨_, rfl⟩
    rw [← hub] at hL HUL
    have HL := Lib.hid hL; clear hL
    rw [← hub]
    clear hub
    by_cases hlt : k < d.X.length
    case neg =>
      obtain rfl : k = d.X.length := by omega
      obtain ⟨u0, u1⟩ := box2 (HL.out.blk _ List.mem_cons_self)
      obtain ⟨x0, x1, x2⟩ := box3 (HL.out.blk _ (List.mem_cons_of_mem _ List.mem_cons_self))
      obtain ⟨r0, r1⟩ := box2 (HL.out.blk _ (List.mem_cons_of_mem _ (List.mem_cons_of_mem _ List.mem_cons_self)))
      have f1 := box_any (HL.out.blk _ (List.mem_cons_of_mem _ (List.mem_cons_of_mem _ List.mem_cons_self)))
      have HBX := Lib.hid (HL.out.blk _ (List.mem_cons_of_mem _ (List.mem_cons_of_mem _ List.mem_cons_self)))
      go_wp2
      refine bodyPost_ret (v := .agg #[.slice B1 (diffX d.X l d.X.length).length c1, .slice B2 (diffH d.X d.H d.X.length).length c2]) ?_ rfl ⟨_, rfl, ⟨_, _, rfl, ?_, ?_⟩, ?_⟩
      · apply res_upd (b := w.heap.size + 1) _ (by kernel_rfl)
        · rfl
        · repeat (first | with_reducible apply block_set | with_reducible exact HBX.out)
        · simp only [List.setIfInBounds_toArray, List.set_cons_zero, List.set_cons_succ]
      · exact own_box (own_box (HL.out.now _ List.mem_cons_self) HBX.out (by decide) _) (block_set HBX.out _ _) (by decide) _
      · exact own_box (own_box (HL.out.now _ (List.mem_cons_of_mem _ List.mem_cons_self)) HBX.out (by decide) _) (block_set HBX.out _ _) (by decide) _
      · refine HL.out.bel.trans ?_
        (repeat (first | with_reducible refine bset ?_ _ (by omega) | with_reducible refine ball ?_ _ (by first | exact Nat.le_refl _ | (simp only [World.size_alloc, World.size_setCell]; omega)) | with_reducible exact Below.refl _ _ | with_reducible refine Below.drew ?_))
    obtain ⟨ad, c', e', _, c0, c1', c2', c3, c4, c5, c6', c7⟩ := (HVX.out.below HL.out.bel).item k hlt
    simp only [Value.slice.injEq, true_and] at e'
    obtain ⟨rfl, rfl⟩ := e'
    have HY1 := Lib.hid (fun h => diffX_yes (l := l) hlt h); have HY0 := Lib.hid (fun h => diffX_not (l := l) hlt h)
    have HH1 := Lib.hid (fun h => diffH_yes (H := d.H) hlt h); have HH0 := Lib.hid (fun h => diffH_not (H := d.H) hlt h)
    have HXL := Lib.hid (HRX.out k hk); have HHL := Lib.hid (HRH.out k hk)
    obtain ⟨x, hx⟩ : ∃ x, x = d.X[k] := ⟨_, rfl⟩
    rw [← hx] at c0 c1' c2' c3 c4 c5 c6' c7 HY1 HY0 HH1 HH0
    clear hx
    have HNX := Lib.hid (HNI.out x.i.c)
    obtain ⟨q, hq⟩ : ∃ q, q = ofK l x.i.c := ⟨_, rfl⟩
    rw [← hq] at HNX HY1 HY0
    clear hq
    obtain ⟨LX, hLX⟩ : ∃ LX, LX = diffX d.X l k := ⟨_, rfl⟩
    rw [← hLX] at HL HXL HY1 HY0
    clear hLX
    obtain ⟨LH, hLH⟩ : ∃ LH, LH = diffH d.X d.H k := ⟨_, rfl⟩
    rw [← hLH] at HL HHL HH1 HH0
    clear hLH
    have hwz := HL.out.bel.size
    have hrl := block_lt (HL.out.blk _ List.mem_cons_self)
    have hul := HUL.out
    have HUB := Lib.hid (show w.heap.size + 1 < ub ∧ ub < wr.heap.size from ⟨hul, hrl⟩)
    have HXS := Lib.hid (show w.heap.size ≤ wr.heap.size from hwz)
    have HXB := Lib.hid (show ∀ g, (Value.slice B1 LX.length c1).ownBlock = some g → g < wr.heap.size from fun g hg => (Ow.lies (HL.out.now _ List.mem_cons_self) g hg).2)
    clear hwz hrl hul
    obtain ⟨z0, z1, z2⟩ := box3 (HL.out.blk _ (List.mem_cons_of_mem _ List.mem_cons_self))
    replace HL := Lib.hid (HL.out.alloc (.cells #[.int .i64 x.i.c, .int .i64 x.i.k, .int .i64 x.l.c, .int .i64 x.l.k, .int .i64 x.r.c, .int .i64 x.r.k, .string x.t, .bool x.g] 91))
    cases hg : x.g with
    | true =>
      have HSH := Lib.hid (HH1.out hg)
      have hLg := HL.out
      rw [hg] at hLg
      replace HL := Lib.hid (show Lg w _ [(ub, .cells #[.slice B1 (LX).length c1, .slice B2 (LH).length c2] 37 (0, 0)), (wr.heap.size, .cells #[.int .i64 x.i.c, .int .i64 x.i.k, .int .i64 x.l.c, .int .i64 x.l.k, .int .i64 x.r.c, .int .i64 x.r.k, .string x.t, .bool true] 91 (0, 0)), (w.heap.size, .cells #[.slice (some ad) d.X.length k1, .slice A2 d.P.length k2, .slice A3 d.H.length k3] 29 (0, 0)), (w.heap.size + 1, .cells #[.slice none 0 0, .slice none 0 0] 37 (0, 0))] [fun W => Ow W w.heap.size 91 8 encM (.slice B1 (LX).length c1) (LX), fun W => Ow W w.heap.size 89 2 encN (.slice B2 (LH).length c2) (LH)] from hLg.sub (fun p hp => by
      simp only [List.mem_cons, List.not_mem_nil, or_false] at hp ⊢
      rcases hp with rfl | rfl | rfl | rfl
      · exact .inr (.inl rfl)
      · exact .inl rfl
      · exact .inr (.inr (.inl rfl))
      · exact .inr (.inr (.inr rfl))) (fun p hp => hp)); clear hLg
      obtain ⟨u0, u1⟩ := box2 (HL.out.blk _ List.mem_cons_self)
      obtain ⟨y0, y1, y2, y3, y4, y5, y6, y7⟩ := box8 (HL.out.blk _ (List.mem_cons_of_mem _ List.mem_cons_self))
      obtain ⟨x0, x1, x2⟩ := box3 (HL.out.blk _ (List.mem_cons_of_mem _ (List.mem_cons_of_mem _ List.mem_cons_self)))
      have f1 := box_any (HL.out.blk _ List.mem_cons_self); have f2 := box_any (HL.out.blk _ (List.mem_cons_of_mem _ List.mem_cons_self))
      go_wp2_with fail
      refine (spec_insI _ LH x.i w.heap.size _ (HL.out.now _ (List.mem_cons_of_mem _ List.mem_cons_self)) (by have := HHL.out.2; omega)).mono ?_
      intro e w6 h6
      obtain ⟨v6, rfl, hb6, ho6⟩ := h6.own (HL.out.now _ (List.mem_cons_of_mem _ List.mem_cons_self)) HL.out.bel.size
      obtain ⟨A6, c6, rfl⟩ := ho6.form
      replace HL := Lib.hid (((HL.out.lift hb6).add (p := fun W => Ow W w.heap.size 89 2 encN (.slice A6 (withR nmI LH x.i).length c6) (withR nmI LH x.i)) ho6 (fun _ _ hb h => Ow.lift h hb)).sub (L' := [(ub, .cells #[.slice B1 (LX).length c1, .slice B2 (LH).length c2] 37 (0, 0)), (wr.heap.size, .cells #[.int .i64 x.i.c, .int .i64 x.i.k, .int .i64 x.l.c, .int .i64 x.l.k, .int .i64 x.r.c, .int .i64 x.r.k, .string x.t, .bool true] 91 (0, 0)), (w.heap.size, .cells #[.slice (some ad) d.X.length k1, .slice A2 d.P.length k2, .slice A3 d.H.length k3] 29 (0, 0)), (w.heap.size + 1, .cells #[.slice none 0 0, .slice none 0 0] 37 (0, 0))]) (F' := [fun W => Ow W w.heap.size 91 8 encM (.slice B1 (LX).length c1) (LX), fun W => Ow W w.heap.size 89 2 encN (.slice A6 (withR nmI LH x.i).length c6) (withR nmI LH x.i)]) (fun p hp => hp) (fun p hp => by
        simp only [List.mem_cons, List.not_mem_nil, or_false] at hp ⊢
        rcases hp with rfl | rfl
        · exact .inr (.inl rfl)
        · exact .inl rfl))
      clear hb6 ho6 h6 f1 f2
      clear u0 u1 y0 y1 y2 y3 y4 y5 y6 y7 x0 x1 x2
      obtain ⟨u0, u1⟩ := box2 (HL.out.blk _ List.mem_cons_self)
      obtain ⟨y0, y1, y2, y3, y4, y5, y6, y7⟩ := box8 (HL.out.blk _ (List.mem_cons_of_mem _ List.mem_cons_self))
      obtain ⟨x0, x1, x2⟩ := box3 (HL.out.blk _ (List.mem_cons_of_mem _ (List.mem_cons_of_mem _ List.mem_cons_self)))
      have f1 := box_any (HL.out.blk _ List.mem_cons_self); have f2 := box_any (HL.out.blk _ (List.mem_cons_of_mem _ List.mem_cons_self))
      replace HL := Lib.hid (show Lg w _ [(ub, .cells #[.slice B1 (LX).length c1, .slice A6 (withR nmI LH x.i).length c6] 37 (0, 0)), (wr.heap.size, .cells #[.int .i64 x.i.c, .int .i64 x.i.k, .int .i64 x.l.c, .int .i64 x.l.k, .int .i64 x.r.c, .int .i64 x.r.k, .string x.t, .bool true] 91 (0, 0)), (w.heap.size, .cells #[.slice (some ad) d.X.length k1, .slice A2 d.P.length k2, .slice A3 d.H.length k3] 29 (0, 0)), (w.heap.size + 1, .cells #[.slice none 0 0, .slice none 0 0] 37 (0, 0))] [fun W => Ow W w.heap.size 91 8 encM (.slice B1 (LX).length c1) (LX), fun W => Ow W w.heap.size 89 2 encN (.slice A6 (withR nmI LH x.i).length c6) (withR nmI LH x.i)] from HL.out.put 1 (.slice A6 (withR nmI LH x.i).length c6) (by have := HUB.out.1; omega) (by
        have h1 := HUB.out.1; have h2 := HUB.out.2
        intro p hp
        simp only [List.mem_cons, List.not_mem_nil, or_false] at hp
        rcases hp with rfl | rfl | rfl <;> simp only <;> omega) (F' := [fun W => Ow W w.heap.size 91 8 encM (.slice B1 (LX).length c1) (LX), fun W => Ow W w.heap.size 89 2 encN (.slice A6 (withR nmI LH x.i).length c6) (withR nmI LH x.i)]) (by
        intro p hp
        simp only [List.mem_cons, List.not_mem_nil, or_false] at hp
        rcases hp with rfl | rfl
        · exact own_box (HL.out.now _ List.mem_cons_self) (HL.out.blk _ List.mem_cons_self) (by decide) _
        · exact own_box (HL.out.now _ (List.mem_cons_of_mem _ List.mem_cons_self)) (HL.out.blk _ List.mem_cons_self) (by decide) _) (fun p hp => by
        simp only [List.mem_cons, List.not_mem_nil, or_false] at hp
        rcases hp with rfl | rfl <;> exact fun _ _ hb h => Ow.lift h hb))
      replace HL := Lib.hid (show Lg w _ [(wr.heap.size, .cells #[.int .i64 x.i.c, .int .i64 x.i.k, .int .i64 x.l.c, .int .i64 x.l.k, .int .i64 x.r.c, .int .i64 x.r.k, .string x.t, .bool false] 91 (0, 0)), (ub, .cells #[.slice B1 (LX).length c1, .slice A6 (withR nmI LH x.i).length c6] 37 (0, 0)), (w.heap.size, .cells #[.slice (some ad) d.X.length k1, .slice A2 d.P.length k2, .slice A3 d.H.length k3] 29 (0, 0)), (w.heap.size + 1, .cells #[.slice none 0 0, .slice none 0 0] 37 (0, 0))] [fun W => Ow W w.heap.size 91 8 encM (.slice B1 (LX).length c1) (LX), fun W => Ow W w.heap.size 89 2 encN (.slice A6 (withR nmI LH x.i).length c6) (withR nmI LH x.i)] from (HL.out.sub (L' := [(wr.heap.size, .cells #[.int .i64 x.i.c, .int .i64 x.i.k, .int .i64 x.l.c, .int .i64 x.l.k, .int .i64 x.r.c, .int .i64 x.r.k, .string x.t, .bool true] 91 (0, 0)), (ub, .cells #[.slice B1 (LX).length c1, .slice A6 (withR nmI LH x.i).length c6] 37 (0, 0)), (w.heap.size, .cells #[.slice (some ad) d.X.length k1, .slice A2 d.P.length k2, .slice A3 d.H.length k3] 29 (0, 0)), (w.heap.size + 1, .cells #[.slice none 0 0, .slice none 0 0] 37 (0, 0))]) (F' := [fun W => Ow W w.heap.size 91 8 encM (.slice B1 (LX).length c1) (LX), fun W => Ow W w.heap.size 89 2 encN (.slice A6 (withR nmI LH x.i).length c6) (withR nmI LH x.i)]) (fun p hp => by
        simp only [List.mem_cons, List.not_mem_nil, or_false] at hp ⊢
        rcases hp with rfl | rfl | rfl | rfl
        · exact .inr (.inl rfl)
        · exact .inl rfl
        · exact .inr (.inr (.inl rfl))
        · exact .inr (.inr (.inr rfl))) (fun p hp => hp)).put 7 (.bool false) HXS.out (by
        have h1 := HUB.out.1; have h2 := HUB.out.2
        intro p hp
        simp only [List.mem_cons, List.not_mem_nil, or_false] at hp
        rcases hp with rfl | rfl | rfl <;> simp only <;> omega) (F' := [fun W => Ow W w.heap.size 91 8 encM (.slice B1 (LX).length c1) (LX), fun W => Ow W w.heap.size 89 2 encN (.slice A6 (withR nmI LH x.i).length c6) (withR nmI LH x.i)]) (by
        intro p hp
        simp only [List.mem_cons, List.not_mem_nil, or_false] at hp
        rcases hp with rfl | rfl
        · exact own_xb2 (HL.out.now _ List.mem_cons_self) HXB.out _
        · exact own_box (HL.out.now _ (List.mem_cons_of_mem _ List.mem_cons_self)) (HL.out.blk _ (List.mem_cons_of_mem _ List.mem_cons_self)) (by decide) _) (fun p hp => by
        simp only [List.mem_cons, List.not_mem_nil, or_false] at hp
        rcases hp with rfl | rfl <;> exact fun _ _ hb h => Ow.lift h hb))
      go_upto_region 9 with fail
      refine wp_region_calm_lg (told [(7, fun u' => u' = .int .i64 q)]) (by kernel_rfl) (by kernel_rfl) (told_mono _) HL.out ?_
      repeat (first
        | (refine calm_skip (by rfl) ?_; try simp only [Act.put, List.setIfInBounds_toArray, List.set_cons_zero, List.set_cons_succ])
        | (refine calm_plain (by rfl) (by rfl) ?_; apply Exists.intro; refine ⟨fun wc hC hD => ?_, ?_⟩; (focus (clear hD; obtain ⟨u0, u1⟩ := box2 (hC.blk _ (List.mem_cons_of_mem _ List.mem_cons_self)); obtain ⟨y0, y1, y2, y3, y4, y5, y6, y7⟩ := box8 (hC.blk _ List.mem_cons_self); obtain ⟨x0, x1, x2⟩ := box3 (hC.blk _ (List.mem_cons_of_mem _ (List.mem_cons_of_mem _ List.mem_cons_self))); clear hC; go_simp; first | done | with_reducible rfl)); try simp only [Act.put, List.setIfInBounds_toArray, List.set_cons_zero, List.set_cons_succ]))
      refine calm_call _ _ (by rfl) (by rfl) ?_ ?_
      focus
        apply Exists.intro
        apply Exists.intro
        refine ⟨fun wc hC hD => ?_, fun wc hC hD => ?_⟩
        focus (clear hD; obtain ⟨u0, u1⟩ := box2 (hC.blk _ (List.mem_cons_of_mem _ List.mem_cons_self)); obtain ⟨y0, y1, y2, y3, y4, y5, y6, y7⟩ := box8 (hC.blk _ List.mem_cons_self); obtain ⟨x0, x1, x2⟩ := box3 (hC.blk _ (List.mem_cons_of_mem _ (List.mem_cons_of_mem _ List.mem_cons_self))); clear hC; go_simp; first | done | with_reducible exact ⟨rfl, rfl⟩ | with_reducible rfl)
        clear hD
        with_reducible refine (HNX.out _ hC.bel).mono ?_
        rintro e wx ⟨rfl, hb⟩
        exact ⟨_, rfl, hb, rfl, trivial⟩
      rintro _ rfl
      try simp only [Act.put, List.setIfInBounds_toArray, List.set_cons_zero, List.set_cons_succ]
      repeat (first
        | (refine calm_skip (by rfl) ?_; try simp only [Act.put, List.setIfInBounds_toArray, List.set_cons_zero, List.set_cons_succ])
        | (refine calm_plain (by rfl) (by rfl) ?_; apply Exists.intro; refine ⟨fun wc hC hD => ?_, ?_⟩; (focus (clear hD; obtain ⟨u0, u1⟩ := box2 (hC.blk _ (List.mem_cons_of_mem _ List.mem_cons_self)); obtain ⟨y0, y1, y2, y3, y4, y5, y6, y7⟩ := box8 (hC.blk _ List.mem_cons_self); obtain ⟨x0, x1, x2⟩ := box3 (hC.blk _ (List.mem_cons_of_mem _ (List.mem_cons_of_mem _ List.mem_cons_self))); clear hC; go_simp; first | done | with_reducible rfl)); try simp only [Act.put, List.setIfInBounds_toArray, List.set_cons_zero, List.set_cons_succ]))
      refine calm_end ?_
      intro w7 hL7 hF7
      clear hF7
      replace HL := Lib.hid hL7
      clear hL7
      by_cases hge : q ≤ x.i.k
      · have HSX := Lib.hid (HY1.out hge)
        replace HL := Lib.hid (HL.out.sub (L' := [(ub, .cells #[.slice B1 (LX).length c1, .slice A6 (withR nmI LH x.i).length c6] 37 (0, 0)), (wr.heap.size, .cells #[.int .i64 x.i.c, .int .i64 x.i.k, .int .i64 x.l.c, .int .i64 x.l.k, .int .i64 x.r.c, .int .i64 x.r.k, .string x.t, .bool false] 91 (0, 0)), (w.heap.size, .cells #[.slice (some ad) d.X.length k1, .slice A2 d.P.length k2, .slice A3 d.H.length k3] 29 (0, 0)), (w.heap.size + 1, .cells #[.slice none 0 0, .slice none 0 0] 37 (0, 0))]) (F' := [fun W => Ow W w.heap.size 91 8 encM (.slice B1 (LX).length c1) (LX), fun W => Ow W w.heap.size 89 2 encN (.slice A6 (withR nmI LH x.i).length c6) (withR nmI LH x.i)]) (fun p hp => by
          simp only [List.mem_cons, List.not_mem_nil, or_false] at hp ⊢
          rcases hp with rfl | rfl | rfl | rfl
          · exact .inr (.inl rfl)
          · exact .inl rfl
          · exact .inr (.inr (.inl rfl))
          · exact .inr (.inr (.inr rfl))) (fun p hp => hp))
        obtain ⟨u0, u1⟩ := box2 (HL.out.blk _ List.mem_cons_self)
        obtain ⟨y0, y1, y2, y3, y4, y5, y6, y7⟩ := box8 (HL.out.blk _ (List.mem_cons_of_mem _ List.mem_cons_self))
        obtain ⟨x0, x1, x2⟩ := box3 (HL.out.blk _ (List.mem_cons_of_mem _ (List.mem_cons_of_mem _ List.mem_cons_self)))
        have f1 := box_any (HL.out.blk _ List.mem_cons_self)
        go_wp2_with fail
        refine (spec_insM _ LX (offM x) w.heap.size _ (HL.out.now _ List.mem_cons_self) (by have := HXL.out.2; omega)).mono ?_
        intro e w8 h8
        obtain ⟨v8, rfl, hb8, ho8⟩ := h8.own (HL.out.now _ List.mem_cons_self) HL.out.bel.size
        obtain ⟨A8, c8, rfl⟩ := ho8.form
        replace HL := Lib.hid (((HL.out.lift hb8).add (p := fun W => Ow W w.heap.size 91 8 encM (.slice A8 (withR Im.i LX (offM x)).length c8) (withR Im.i LX (offM x))) ho8 (fun _ _ hb h => Ow.lift h hb)).sub (L' := [(ub, .cells #[.slice B1 (LX).length c1, .slice A6 (withR nmI LH x.i).length c6] 37 (0, 0)), (wr.heap.size, .cells #[.int .i64 x.i.c, .int .i64 x.i.k, .int .i64 x.l.c, .int .i64 x.l.k, .int .i64 x.r.c, .int .i64 x.r.k, .string x.t, .bool false] 91 (0, 0)), (w.heap.size, .cells #[.slice (some ad) d.X.length k1, .slice A2 d.P.length k2, .slice A3 d.H.length k3] 29 (0, 0)), (w.heap.size + 1, .cells #[.slice none 0 0, .slice none 0 0] 37 (0, 0))]) (F' := [fun W => Ow W w.heap.size 91 8 encM (.slice A8 (withR Im.i LX (offM x)).length c8) (withR Im.i LX (offM x)), fun W => Ow W w.heap.size 89 2 encN (.slice A6 (withR nmI LH x.i).length c6) (withR nmI LH x.i)]) (fun p hp => hp) (fun p hp => by
          simp only [List.mem_cons, List.not_mem_nil, or_false] at hp ⊢
          rcases hp with rfl | rfl
          · exact .inl rfl
          · exact .inr (.inr rfl)))
        clear hb8 ho8 h8 f1
        clear u0 u1 y0 y1 y2 y3 y4 y5 y6 y7 x0 x1 x2
        obtain ⟨u0, u1⟩ := box2 (HL.out.blk _ List.mem_cons_self)
        obtain ⟨y0, y1, y2, y3, y4, y5, y6, y7⟩ := box8 (HL.out.blk _ (List.mem_cons_of_mem _ List.mem_cons_self))
        obtain ⟨x0, x1, x2⟩ := box3 (HL.out.blk _ (List.mem_cons_of_mem _ (List.mem_cons_of_mem _ List.mem_cons_self)))
        have f1 := box_any (HL.out.blk _ List.mem_cons_self)
        replace HL := Lib.hid (show Lg w _ [(ub, .cells #[.slice A8 (withR Im.i LX (offM x)).length c8, .slice A6 (withR nmI LH x.i).length c6] 37 (0, 0)), (wr.heap.size, .cells #[.int .i64 x.i.c, .int .i64 x.i.k, .int .i64 x.l.c, .int .i64 x.l.k, .int .i64 x.r.c, .int .i64 x.r.k, .string x.t, .bool false] 91 (0, 0)), (w.heap.size, .cells #[.slice (some ad) d.X.length k1, .slice A2 d.P.length k2, .slice A3 d.H.length k3] 29 (0, 0)), (w.heap.size + 1, .cells #[.slice none 0 0, .slice none 0 0] 37 (0, 0))] [fun W => Ow W w.heap.size 91 8 encM (.slice A8 (withR Im.i LX (offM x)).length c8) (withR Im.i LX (offM x)), fun W => Ow W w.heap.size 89 2 encN (.slice A6 (withR nmI LH x.i).length c6) (withR nmI LH x.i)] from HL.out.put 0 (.slice A8 (withR Im.i LX (offM x)).length c8) (by have := HUB.out.1; omega) (by
          have h1 := HUB.out.1; have h2 := HUB.out.2
          intro p hp
          simp only [List.mem_cons, List.not_mem_nil, or_false] at hp
          rcases hp with rfl | rfl | rfl <;> simp only <;> omega) (F' := [fun W => Ow W w.heap.size 91 8 encM (.slice A8 (withR Im.i LX (offM x)).length c8) (withR Im.i LX (offM x)), fun W => Ow W w.heap.size 89 2 encN (.slice A6 (withR nmI LH x.i).length c6) (withR nmI LH x.i)]) (by
          intro p hp
          simp only [List.mem_cons, List.not_mem_nil, or_false] at hp
          rcases hp with rfl | rfl
          · exact own_box (HL.out.now _ List.mem_cons_self) (HL.out.blk _ List.mem_cons_self) (by decide) _
          · exact own_box (HL.out.now _ (List.mem_cons_of_mem _ List.mem_cons_self)) (HL.out.blk _ List.mem_cons_self) (by decide) _) (fun p hp => by
          simp only [List.mem_cons, List.not_mem_nil, or_false] at hp
          rcases hp with rfl | rfl <;> exact fun _ _ hb h => Ow.lift h hb))
        go_wp2
        go_roundw
        case rel => exact ⟨k + 1, A8, c8, A6, c6, by omega, by go_num, by
          rw [HSX.out, HSH.out]
          exact HL.out.sub (fun p hp => by
            simp only [List.mem_cons, List.not_mem_nil, or_false] at hp ⊢
            rcases hp with rfl | rfl | rfl
            · exact .inl rfl
            · exact .inr (.inr (.inl rfl))
            · exact .inr (.inr (.inr rfl))) (fun p hp => hp)⟩
        case measure => simp [intOf]; omega
      · have HSX := Lib.hid (HY0.out (by omega))
        go_wp2
        go_roundw
        case rel => exact ⟨k + 1, B1, c1, A6, c6, by omega, by go_num, by
          rw [HSX.out, HSH.out]
          exact HL.out.sub (fun p hp => by
            simp only [List.mem_cons, List.not_mem_nil, or_false] at hp ⊢
            rcases hp with rfl | rfl | rfl
            · exact .inr (.inl rfl)
            · exact .inr (.inr (.inl rfl))
            · exact .inr (.inr (.inr rfl))) (fun p hp => hp)⟩
        case measure => simp [intOf]; omega
    | false =>
      have HSH := Lib.hid (HH0.out (by rw [hg]; exact Bool.false_ne_true))
      have hLg := HL.out
      rw [hg] at hLg
      replace HL := Lib.hid (show Lg w _ [(ub, .cells #[.slice B1 (LX).length c1, .slice B2 (LH).length c2] 37 (0, 0)), (wr.heap.size, .cells #[.int .i64 x.i.c, .int .i64 x.i.k, .int .i64 x.l.c, .int .i64 x.l.k, .int .i64 x.r.c, .int .i64 x.r.k, .string x.t, .bool false] 91 (0, 0)), (w.heap.size, .cells #[.slice (some ad) d.X.length k1, .slice A2 d.P.length k2, .slice A3 d.H.length k3] 29 (0, 0)), (w.heap.size + 1, .cells #[.slice none 0 0, .slice none 0 0] 37 (0, 0))] [fun W => Ow W w.heap.size 91 8 encM (.slice B1 (LX).length c1) (LX), fun W => Ow W w.heap.size 89 2 encN (.slice B2 (LH).length c2) (LH)] from hLg.sub (fun p hp => by
      simp only [List.mem_cons, List.not_mem_nil, or_false] at hp ⊢
      rcases hp with rfl | rfl | rfl | rfl
      · exact .inr (.inl rfl)
      · exact .inl rfl
      · exact .inr (.inr (.inl rfl))
      · exact .inr (.inr (.inr rfl))) (fun p hp => hp)); clear hLg
      obtain ⟨u0, u1⟩ := box2 (HL.out.blk _ List.mem_cons_self)
      obtain ⟨y0, y1, y2, y3, y4, y5, y6, y7⟩ := box8 (HL.out.blk _ (List.mem_cons_of_mem _ List.mem_cons_self))
      obtain ⟨x0, x1, x2⟩ := box3 (HL.out.blk _ (List.mem_cons_of_mem _ (List.mem_cons_of_mem _ List.mem_cons_self)))
      have f1 := box_any (HL.out.blk _ List.mem_cons_self); have f2 := box_any (HL.out.blk _ (List.mem_cons_of_mem _ List.mem_cons_self))
      replace HL := Lib.hid (HL.out.sub (L' := [(wr.heap.size, .cells #[.int .i64 x.i.c, .int .i64 x.i.k, .int .i64 x.l.c, .int .i64 x.l.k, .int .i64 x.r.c, .int .i64 x.r.k, .string x.t, .bool false] 91 (0, 0)), (ub, .cells #[.slice B1 (LX).length c1, .slice B2 (LH).length c2] 37 (0, 0)), (w.heap.size, .cells #[.slice (some ad) d.X.length k1, .slice A2 d.P.length k2, .slice A3 d.H.length k3] 29 (0, 0)), (w.heap.size + 1, .cells #[.slice none 0 0, .slice none 0 0] 37 (0, 0))]) (F' := [fun W => Ow W w.heap.size 91 8 encM (.slice B1 (LX).length c1) (LX), fun W => Ow W w.heap.size 89 2 encN (.slice B2 (LH).length c2) (LH)]) (fun p hp => by
        simp only [List.mem_cons, List.not_mem_nil, or_false] at hp ⊢
        rcases hp with rfl | rfl | rfl | rfl
        · exact .inr (.inl rfl)
        · exact .inl rfl
        · exact .inr (.inr (.inl rfl))
        · exact .inr (.inr (.inr rfl))) (fun p hp => hp))
      go_upto_region 9 with fail
      refine wp_region_calm_lg (told [(7, fun u' => u' = .int .i64 q)]) (by kernel_rfl) (by kernel_rfl) (told_mono _) HL.out ?_
      repeat (first
        | (refine calm_skip (by rfl) ?_; try simp only [Act.put, List.setIfInBounds_toArray, List.set_cons_zero, List.set_cons_succ])
        | (refine calm_plain (by rfl) (by rfl) ?_; apply Exists.intro; refine ⟨fun wc hC hD => ?_, ?_⟩; (focus (clear hD; obtain ⟨u0, u1⟩ := box2 (hC.blk _ (List.mem_cons_of_mem _ List.mem_cons_self)); obtain ⟨y0, y1, y2, y3, y4, y5, y6, y7⟩ := box8 (hC.blk _ List.mem_cons_self); obtain ⟨x0, x1, x2⟩ := box3 (hC.blk _ (List.mem_cons_of_mem _ (List.mem_cons_of_mem _ List.mem_cons_self))); clear hC; go_simp; first | done | with_reducible rfl)); try simp only [Act.put, List.setIfInBounds_toArray, List.set_cons_zero, List.set_cons_succ]))
      refine calm_call _ _ (by rfl) (by rfl) ?_ ?_
      focus
        apply Exists.intro
        apply Exists.intro
        refine ⟨fun wc hC hD => ?_, fun wc hC hD => ?_⟩
        focus (clear hD; obtain ⟨u0, u1⟩ := box2 (hC.blk _ (List.mem_cons_of_mem _ List.mem_cons_self)); obtain ⟨y0, y1, y2, y3, y4, y5, y6, y7⟩ := box8 (hC.blk _ List.mem_cons_self); obtain ⟨x0, x1, x2⟩ := box3 (hC.blk _ (List.mem_cons_of_mem _ (List.mem_cons_of_mem _ List.mem_cons_self))); clear hC; go_simp; first | done | with_reducible exact ⟨rfl, rfl⟩ | with_reducible rfl)
        clear hD
        with_reducible refine (HNX.out _ hC.bel).mono ?_
        rintro e wx ⟨rfl, hb⟩
        exact ⟨_, rfl, hb, rfl, trivial⟩
      rintro _ rfl
      try simp only [Act.put, List.setIfInBounds_toArray, List.set_cons_zero, List.set_cons_succ]
      repeat (first
        | (refine calm_skip (by rfl) ?_; try simp only [Act.put, List.setIfInBounds_toArray, List.set_cons_zero, List.set_cons_succ])
        | (refine calm_plain (by rfl) (by rfl) ?_; apply Exists.intro; refine ⟨fun wc hC hD => ?_, ?_⟩; (focus (clear hD; obtain ⟨u0, u1⟩ := box2 (hC.blk _ (List.mem_cons_of_mem _ List.mem_cons_self)); obtain ⟨y0, y1, y2, y3, y4, y5, y6, y7⟩ := box8 (hC.blk _ List.mem_cons_self); obtain ⟨x0, x1, x2⟩ := box3 (hC.blk _ (List.mem_cons_of_mem _ (List.mem_cons_of_mem _ List.mem_cons_self))); clear hC; go_simp; first | done | with_reducible rfl)); try simp only [Act.put, List.setIfInBounds_toArray, List.set_cons_zero, List.set_cons_succ]))
      refine calm_end ?_
      intro w7 hL7 hF7
      clear hF7
      replace HL := Lib.hid hL7
      clear hL7
      by_cases hge : q ≤ x.i.k
      · have HSX := Lib.hid (HY1.out hge)
        replace HL := Lib.hid (HL.out.sub (L' := [(ub, .cells #[.slice B1 (LX).length c1, .slice B2 (LH).length c2] 37 (0, 0)), (wr.heap.size, .cells #[.int .i64 x.i.c, .int .i64 x.i.k, .int .i64 x.l.c, .int .i64 x.l.k, .int .i64 x.r.c, .int .i64 x.r.k, .string x.t, .bool false] 91 (0, 0)), (w.heap.size, .cells #[.slice (some ad) d.X.length k1, .slice A2 d.P.length k2, .slice A3 d.H.length k3] 29 (0, 0)), (w.heap.size + 1, .cells #[.slice none 0 0, .slice none 0 0] 37 (0, 0))]) (F' := [fun W => Ow W w.heap.size 91 8 encM (.slice B1 (LX).length c1) (LX), fun W => Ow W w.heap.size 89 2 encN (.slice B2 (LH).length c2) (LH)]) (fun p hp => by
          simp only [List.mem_cons, List.not_mem_nil, or_false] at hp ⊢
          rcases hp with rfl | rfl | rfl | rfl
          · exact .inr (.inl rfl)
          · exact .inl rfl
          · exact .inr (.inr (.inl rfl))
          · exact .inr (.inr (.inr rfl))) (fun p hp => hp))
        obtain ⟨u0, u1⟩ := box2 (HL.out.blk _ List.mem_cons_self)
        obtain ⟨y0, y1, y2, y3, y4, y5, y6, y7⟩ := box8 (HL.out.blk _ (List.mem_cons_of_mem _ List.mem_cons_self))
        obtain ⟨x0, x1, x2⟩ := box3 (HL.out.blk _ (List.mem_cons_of_mem _ (List.mem_cons_of_mem _ List.mem_cons_self)))
        have f1 := box_any (HL.out.blk _ List.mem_cons_self)
        go_wp2_with fail
        refine (spec_insM _ LX (offM x) w.heap.size _ (HL.out.now _ List.mem_cons_self) (by have := HXL.out.2; omega)).mono ?_
        intro e w8 h8
        obtain ⟨v8, rfl, hb8, ho8⟩ := h8.own (HL.out.now _ List.mem_cons_self) HL.out.bel.size
        obtain ⟨A8, c8, rfl⟩ := ho8.form
        replace HL := Lib.hid (((HL.out.lift hb8).add (p := fun W => Ow W w.heap.size 91 8 encM (.slice A8 (withR Im.i LX (offM x)).length c8) (withR Im.i LX (offM x))) ho8 (fun _ _ hb h => Ow.lift h hb)).sub (L' := [(ub, .cells #[.slice B1 (LX).length c1, .slice B2 (LH).length c2] 37 (0, 0)), (wr.heap.size, .cells #[.int .i64 x.i.c, .int .i64 x.i.k, .int .i64 x.l.c, .int .i64 x.l.k, .int .i64 x.r.c, .int .i64 x.r.k, .string x.t, .bool false] 91 (0, 0)), (w.heap.size, .cells #[.slice (some ad) d.X.length k1, .slice A2 d.P.length k2, .slice A3 d.H.length k3] 29 (0, 0)), (w.heap.size + 1, .cells #[.slice none 0 0, .slice none 0 0] 37 (0, 0))]) (F' := [fun W => Ow W w.heap.size 91 8 encM (.slice A8 (withR Im.i LX (offM x)).length c8) (withR Im.i LX (offM x)), fun W => Ow W w.heap.size 89 2 encN (.slice B2 (LH).length c2) (LH)]) (fun p hp => hp) (fun p hp => by
          simp only [List.mem_cons, List.not_mem_nil, or_false] at hp ⊢
          rcases hp with rfl | rfl
          · exact .inl rfl
          · exact .inr (.inr rfl)))
        clear hb8 ho8 h8 f1
        clear u0 u1 y0 y1 y2 y3 y4 y5 y6 y7 x0 x1 x2
        obtain ⟨u0, u1⟩ := box2 (HL.out.blk _ List.mem_cons_self)
        obtain ⟨y0, y1, y2, y3, y4, y5, y6, y7⟩ := box8 (HL.out.blk _ (List.mem_cons_of_mem _ List.mem_cons_self))
        obtain ⟨x0, x1, x2⟩ := box3 (HL.out.blk _ (List.mem_cons_of_mem _ (List.mem_cons_of_mem _ List.mem_cons_self)))
        have f1 := box_any (HL.out.blk _ List.mem_cons_self)
        replace HL := Lib.hid (show Lg w _ [(ub, .cells #[.slice A8 (withR Im.i LX (offM x)).length c8, .slice B2 (LH).length c2] 37 (0, 0)), (wr.heap.size, .cells #[.int .i64 x.i.c, .int .i64 x.i.k, .int .i64 x.l.c, .int .i64 x.l.k, .int .i64 x.r.c, .int .i64 x.r.k, .string x.t, .bool false] 91 (0, 0)), (w.heap.size, .cells #[.slice (some ad) d.X.length k1, .slice A2 d.P.length k2, .slice A3 d.H.length k3] 29 (0, 0)), (w.heap.size + 1, .cells #[.slice none 0 0, .slice none 0 0] 37 (0, 0))] [fun W => Ow W w.heap.size 91 8 encM (.slice A8 (withR Im.i LX (offM x)).length c8) (withR Im.i LX (offM x)), fun W => Ow W w.heap.size 89 2 encN (.slice B2 (LH).length c2) (LH)] from HL.out.put 0 (.slice A8 (withR Im.i LX (offM x)).length c8) (by have := HUB.out.1; omega) (by
          have h1 := HUB.out.1; have h2 := HUB.out.2
          intro p hp
          simp only [List.mem_cons, List.not_mem_nil, or_false] at hp
          rcases hp with rfl | rfl | rfl <;> simp only <;> omega) (F' := [fun W => Ow W w.heap.size 91 8 encM (.slice A8 (withR Im.i LX (offM x)).length c8) (withR Im.i LX (offM x)), fun W => Ow W w.heap.size 89 2 encN (.slice B2 (LH).length c2) (LH)]) (by
          intro p hp
          simp only [List.mem_cons, List.not_mem_nil, or_false] at hp
          rcases hp with rfl | rfl
          · exact own_box (HL.out.now _ List.mem_cons_self) (HL.out.blk _ List.mem_cons_self) (by decide) _
          · exact own_box (HL.out.now _ (List.mem_cons_of_mem _ List.mem_cons_self)) (HL.out.blk _ List.mem_cons_self) (by decide) _) (fun p hp => by
          simp only [List.mem_cons, List.not_mem_nil, or_false] at hp
          rcases hp with rfl | rfl <;> exact fun _ _ hb h => Ow.lift h hb))
        go_wp2
        go_roundw
        case rel => exact ⟨k + 1, A8, c8, B2, c2, by omega, by go_num, by
          rw [HSX.out, HSH.out]
          exact HL.out.sub (fun p hp => by
            simp only [List.mem_cons, List.not_mem_nil, or_false] at hp ⊢
            rcases hp with rfl | rfl | rfl
            · exact .inl rfl
            · exact .inr (.inr (.inl rfl))
            · exact .inr (.inr (.inr rfl))) (fun p hp => hp)⟩
        case measure => simp [intOf]; omega
      · have HSX := Lib.hid (HY0.out (by omega))
        go_wp2
        go_roundw
        case rel => exact ⟨k + 1, B1, c1, B2, c2, by omega, by go_num, by
          rw [HSX.out, HSH.out]
          exact HL.out.sub (fun p hp => by
            simp only [List.mem_cons, List.not_mem_nil, or_false] at hp ⊢
            rcases hp with rfl | rfl | rfl
            · exact .inr (.inl rfl)
            · exact .inr (.inr (.inl rfl))
            · exact .inr (.inr (.inr rfl))) (fun p hp => hp)⟩
        case measure => simp [intOf]; omega

end Go.Proofs.Ytaggmcdfggmlhaa
