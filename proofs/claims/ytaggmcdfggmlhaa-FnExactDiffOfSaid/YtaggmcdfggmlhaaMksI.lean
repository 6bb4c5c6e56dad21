/-
  The marks of a doc: contract of the program.
-/
import Derived.Test.YtaggmcdfggmlhaaMksS
namespace Go.Proofs.Ytaggmcdfggmlhaa
set_option linter.unusedSimpArgs false
set_option linter.unusedVariables false
open Go.ChangeShapes Go.WideShapes Go.ChangeAt Go.RowKit

theorem WithR.own {α : Type} {E : TypeId} {k base : Nat} {enc : α → List Value} {f : α → Nm} {v : Value} {l : List α} {x : α} {w w' : World} {e : Ending} (h : WithR E k enc f v l x w e w') (ho : Ow w base E k enc v l) (hb : base ≤ w.heap.size) :
    ∃ v', e = .returned v' ∧ Below w.heap.size w w' ∧ Ow w' base E k enc v' (withR f l x) := by
  obtain ⟨v', rfl, hbw, h1, h2⟩ := h
  refine ⟨v', rfl, hbw, ?_⟩
  by_cases ht : ThereP f l (f x)
  · rw [h1 ht, with_there ht]
    exact ho.lift hbw
  · exact (h2 ht).base hb

set_option maxRecDepth 100000 in
set_option maxHeartbeats 16000000 in
theorem impl_marksOf (v : Value) (d : Dc) (w : World) (hv : DcAt w w.heap.size v d) (hf : Fit d) :
    Calls Try.prog 17 #[v] w (Owns w 113 2 encN (marksD d)) := by
  have HD := Lib.hid (fun W (hb : Below w.heap.size w W) => impl_docF v d W ((hv.below hb).more hb.size) hf)
  obtain ⟨vx, vp, vh, rfl, hx, hp, hh⟩ := hv
  have HCN := Lib.hid (fun n W (hb : Below w.heap.size w W) => impl_count vx d.X n W ((hx.below hb).more hb.size) hf.1.1)
  obtain ⟨A1, k1, rfl⟩ := hx.form; obtain ⟨A2, k2, rfl⟩ := hp.form; obtain ⟨A3, k3, rfl⟩ := hh.form
  have HVX := Lib.hid hx
  clear hx hp hh hf
  have HL0 := Lib.hid ((Lg.start w).alloc (.cells #[.slice A1 d.X.length k1, .slice A2 d.P.length k2, .slice A3 d.H.length k3] 29))
  cases hd : docB d with
  | false =>
    have HL := HL0
    replace HD := Lib.hid (fun W hb => (HD.out W hb).mono fun _ _ h => Tell.to h hd)
    rw [marksD_no hd]; clear hd
    go_enter Try.func17, Try.ntmps17
    go_wp2_with fail
    refine (HD.out _ HL.out.bel).mono ?_
    rintro e w1 ⟨rfl, hb1⟩
    replace HL := Lib.hid (HL.out.lift hb1); clear hb1
    go_wp2
    go_ret
    exact ⟨_, rfl, World.ownsRow_nil _ _ _ _, HL.out.bel⟩
  | true =>
    replace HD := Lib.hid (fun W hb => (HD.out W hb).mono fun _ _ h => Tell.to h hd)
    have h60 : d.X.length ≤ 60 := ((docB_iff d).1 hd).1.1
    rw [marksD_yes hd]; clear hd
    have HL := HL0
    go_enter Try.func17, Try.ntmps17
    go_wp2_with fail
    refine (HD.out _ HL.out.bel).mono ?_
    rintro e w1 ⟨rfl, hb1⟩
    replace HL := Lib.hid (HL.out.lift hb1); clear hb1 HL0
    obtain ⟨x0, x1, x2⟩ := box3 (HL.out.blk _ List.mem_cons_self)
    go_wp2
    go_loopw [3, 12] (fun o i wr => ∃ (k : Nat) (A : Option Addr) (c : Nat), k ≤ d.X.length ∧ i = .int .i64 k ∧ o = .slice A (marksTo d.X k).length c ∧ Ow wr w.heap.size 113 2 encN (.slice A (marksTo d.X k).length c) (marksTo d.X k) ∧ Lg w wr [(w.heap.size, .cells #[.slice A1 d.X.length k1, .slice A2 d.P.length k2, .slice A3 d.H.length k3] 29)] []) (fun _ i _ => d.X.length - (intOf i).toNat)
    case atStart => exact ⟨0, _, _, Nat.zero_le _, rfl, rfl, World.ownsRow_nil _ _ _ _, HL.out⟩
    case round =>
      clear x0 x1 x2 HL
      obtain ⟨k, A, c, hk, rfl, rfl, ho, hL⟩ := hrel
      have HL := Lib.hid hL; clear hL
      have hlen := marksTo_len d.X k hk
      have HLR := Lib.hid (marksTo_rise d.X k hk)
      by_cases hlt : k < d.X.length
      case neg =>
        obtain rfl : k = d.X.length := by omega
        have HO := Lib.hid ho; clear ho
        go_wp2
        go_ret
        exact ⟨_, rfl, HO.out, HL.out.bel⟩
      have HST := Lib.hid (marksTo_succ hlt)
      obtain ⟨ad, c', e', _, c0, c1, c2, c3, c4, c5, c6, c7⟩ := (HVX.out.below HL.out.bel).item k hlt
      simp only [Value.slice.injEq, true_and] at e'
      obtain ⟨rfl, rfl⟩ := e'
      obtain ⟨x, hx⟩ : ∃ x, x = d.X[k] := ⟨_, rfl⟩
      rw [← hx] at c0 c1 c2 c3 c4 c5 c6 c7 HST
      clear hx
      obtain ⟨q, hq⟩ : ∃ q : Int, q = nextOf d.X x.i.c := ⟨_, rfl⟩
      have HNX := Lib.hid (HCN.out x.i.c)
      rw [← hq] at HST HNX
      clear hq
      obtain ⟨L, hL⟩ : ∃ L, L = marksTo d.X k := ⟨_, rfl⟩
      rw [← hL] at HST ho hlen HLR ⊢
      clear hL
      have HLN := Lib.hid (show L.length ≤ 1048576 by omega)
      have HLA := Lib.hid ((HL.out.alloc (.cells #[.int .i64 x.i.c, .int .i64 x.i.k, .int .i64 x.l.c, .int .i64 x.l.k, .int .i64 x.r.c, .int .i64 x.r.k, .string x.t, .bool x.g] 91)).add (p := fun W => Ow W w.heap.size 113 2 encN (.slice A L.length c) L) (ho.alloc _) (fun _ _ hb h => Ow.lift h hb))
      clear ho
      go_upto_region 7 with fail
      refine wp_region_calm_lg_tail [(9, (fun u => u = .int .i64 q), fun _ _ => True), (11, (fun u => ∃ C c, u = .slice C (withR nmK L ⟨x.i.c, q⟩).length c), fun u W => Ow W w.heap.size 113 2 encN u (withR nmK L ⟨x.i.c, q⟩))] 12 (by kernel_rfl) (by kernel_rfl) (by intro p hp v; simp only [List.mem_cons, List.not_mem_nil, or_false] at hp; rcases hp with rfl | rfl; exact fun _ _ _ h => h; exact fun _ _ hb h => Ow.lift h hb) HLA.out ?_
      repeat (first
        | (refine calm_skip (by rfl) ?_; try simp only [Act.put, List.setIfInBounds_toArray, List.set_cons_zero, List.set_cons_succ])
        | (refine calm_plain (by rfl) (by rfl) ?_; apply Exists.intro; refine ⟨fun wc hC hD => ?_, ?_⟩; (focus (clear hD; obtain ⟨y0, y1, y2, y3, y4, y5, y6, y7⟩ := box8 (hC.blk _ List.mem_cons_self); obtain ⟨x0, x1, x2⟩ := box3 (hC.blk _ (List.mem_cons_of_mem _ List.mem_cons_self)); clear hC; go_simp; first | done | with_reducible rfl)); try simp only [Act.put, List.setIfInBounds_toArray, List.set_cons_zero, List.set_cons_succ]))
      refine calm_call _ _ (by rfl) (by rfl) ?_ ?_
      focus
        apply Exists.intro
        apply Exists.intro
        refine ⟨fun wc hC hD => ?_, fun wc hC hD => ?_⟩
        focus (clear hD; obtain ⟨y0, y1, y2, y3, y4, y5, y6, y7⟩ := box8 (hC.blk _ List.mem_cons_self); obtain ⟨x0, x1, x2⟩ := box3 (hC.blk _ (List.mem_cons_of_mem _ List.mem_cons_self)); clear hC; go_simp; first | done | with_reducible exact ⟨rfl, rfl⟩ | with_reducible rfl)
        clear hD
        with_reducible refine (HNX.out _ hC.bel).mono ?_
        rintro e wx ⟨rfl, hb⟩
        exact ⟨_, rfl, hb, rfl, trivial⟩
      rintro _ rfl
      try simp only [Act.put, List.setIfInBounds_toArray, List.set_cons_zero, List.set_cons_succ]
      repeat (first
        | (refine calm_skip (by rfl) ?_; try simp only [Act.put, List.setIfInBounds_toArray, List.set_cons_zero, List.set_cons_succ])
        | (refine calm_plain (by rfl) (by rfl) ?_; apply Exists.intro; refine ⟨fun wc hC hD => ?_, ?_⟩; (focus (clear hD; obtain ⟨y0, y1, y2, y3, y4, y5, y6, y7⟩ := box8 (hC.blk _ List.mem_cons_self); obtain ⟨x0, x1, x2⟩ := box3 (hC.blk _ (List.mem_cons_of_mem _ List.mem_cons_self)); clear hC; go_simp; first | done | with_reducible rfl)); try simp only [Act.put, List.setIfInBounds_toArray, List.set_cons_zero, List.set_cons_succ]))
      refine calm_call _ _ (by rfl) (by rfl) ?_ ?_
      focus
        apply Exists.intro
        apply Exists.intro
        refine ⟨fun wc hC hD => ?_, fun wc hC hD => ?_⟩
        focus (clear hD; obtain ⟨y0, y1, y2, y3, y4, y5, y6, y7⟩ := box8 (hC.blk _ List.mem_cons_self); obtain ⟨x0, x1, x2⟩ := box3 (hC.blk _ (List.mem_cons_of_mem _ List.mem_cons_self)); clear hC; go_simp; first | done | with_reducible exact ⟨rfl, rfl⟩ | with_reducible rfl)
        clear hD
        have hn := hC.now _ List.mem_cons_self
        with_reducible refine (impl_withK (.slice A L.length c) L ⟨x.i.c, q⟩ w.heap.size _ hn HLN.out HLR.out).mono ?_
        intro e wx h
        obtain ⟨v', rfl, hb, ho⟩ := h.own hn hC.bel.size
        obtain ⟨C, c9, rfl⟩ := ho.form
        exact ⟨_, rfl, hb, ⟨_, _, rfl⟩, ho⟩
      rintro _ ⟨C, c9, rfl⟩
      try simp only [Act.put, List.setIfInBounds_toArray, List.set_cons_zero, List.set_cons_succ]
      repeat (first
        | (refine calm_skip (by rfl) ?_; try simp only [Act.put, List.setIfInBounds_toArray, List.set_cons_zero, List.set_cons_succ])
        | (refine calm_plain (by rfl) (by rfl) ?_; apply Exists.intro; refine ⟨fun wc hC hD => ?_, ?_⟩; (focus (clear hD; obtain ⟨y0, y1, y2, y3, y4, y5, y6, y7⟩ := box8 (hC.blk _ List.mem_cons_self); obtain ⟨x0, x1, x2⟩ := box3 (hC.blk _ (List.mem_cons_of_mem _ List.mem_cons_self)); clear hC; go_simp; first | done | with_reducible rfl)); try simp only [Act.put, List.setIfInBounds_toArray, List.set_cons_zero, List.set_cons_succ]))
      refine calm_end ?_
      intro w7 hL7 hF7
      have hO := hF7 11
      simp [upd, noF] at hO
      clear hF7
      replace HL := Lib.hid hL7
      clear hL7
      simp only [List.drop_succ_cons, List.drop_zero]
      have HO := Lib.hid hO; clear hO
      go_wp2
      go_roundw
      case rel => exact ⟨k + 1, _, _, by omega, by go_num, by rw [HST.out], by rw [HST.out]; exact HO.out, ⟨HL.out.bel, fun p hp => HL.out.blk p (List.mem_cons_of_mem _ hp), fun p hp => absurd hp (by simp), fun p hp => absurd hp (by simp)⟩⟩
      case measure => simp [intOf]; omega

end Go.Proofs.Ytaggmcdfggmlhaa
