/-
  What is handed round of a doc: contract of the program.
-/
import Derived.Test.YtaggmcdfggmlhaaDfM
import Derived.Test.YtaggmcdfggmlhaaCopyD
namespace Go.Proofs.Ytaggmcdfggmlhaa
set_option linter.unusedSimpArgs false
set_option linter.unusedVariables false
open Go.ChangeShapes Go.WideShapes Go.ChangeAt Go.RowKit

theorem res_upd {W : World} {b : Nat} {cs : Array Value} {a0 a1 : Value} (f : Func) (hf : f.results = #[.cell 4 37]) (tm : Array Value) (ht : tm[4]? = some (.pointer (some ⟨b, 0, none⟩))) (hg : W.heap[b]? = some (.cells cs 37 (0, 0))) (he : cs = #[a0, a1]) :
    (results f tm).run Try.prog W = .ok (.agg #[a0, a1]) W := by
  subst he
  obtain ⟨c0, c1⟩ := box2 hg
  simp [results, hf, go_sem, ht, c0, c1]

theorem own_xb2 {α : Type} {w : World} {base b j k : Nat} {E : TypeId} {enc : α → List Value} {v : Value} {l : List α} (h : Ow w base E k enc v l) (hn : ∀ g, v.ownBlock = some g → g < b) (u : Value) : Ow (w.setCell ⟨b, j, none⟩ u) base E k enc v l :=
  own_aside h (fun g hg e => by have := hn g hg; omega) u
theorem own_xb {α : Type} {w : World} {base b j k : Nat} {E : TypeId} {o : Obj} {enc : α → List Value} {v : Value} {l : List α} (h : Ow w base E k enc v l) (_ : w.heap[b]? = some o) (hn : ∀ g, v.ownBlock = some g → g < b) (u : Value) : Ow (w.setCell ⟨b, j, none⟩ u) base E k enc v l := own_xb2 h hn u

set_option maxRecDepth 100000 in
set_option maxHeartbeats 16000000 in
theorem impl_diffOf (v vl : Value) (d : Dc) (l : List Nm) (w : World) (hv : DcAt w w.heap.size v d) (hm : Sl w w.heap.size 2 encN vl l) (hf : Fit d) (hl : l.length ≤ 140737488351232) :
    Calls Try.prog 16 #[v, vl] w (OwnsUp w (diffD d l)) := by
  have HD := Lib.hid (fun W (hb : Below w.heap.size w W) => impl_docF v d W ((hv.below hb).more hb.size) hf)
  have HM := Lib.hid (fun W (hb : Below w.heap.size w W) => impl_marksR vl l W ((hm.below hb).more hb.size) hl)
  have HNI := Lib.hid (fun (hr : Rise nmK l) n W (hb : Below w.heap.size w W) => impl_nextIn vl l n W ((hm.below hb).more hb.size) hl hr)
  have HAN := Lib.hid (fun (h1 : d.X.length ≤ 1048576) (h2 : d.P.length ≤ 1048576) (h3 : d.H.length ≤ 1048576) (h4 : ∀ x ∈ d.X, x.t.size ≤ 281474976710656) (h5 : ∀ x ∈ d.P, x.t.size ≤ 281474976710656) W (hb : Below w.heap.size w W) => impl_anew v d W ((hv.below hb).more hb.size) h1 h2 h3 h4 h5)
  obtain ⟨vx, vp, vh, rfl, hx, hp, hh⟩ := hv
  obtain ⟨A1, k1, rfl⟩ := hx.form; obtain ⟨A2, k2, rfl⟩ := hp.form; obtain ⟨A3, k3, rfl⟩ := hh.form
  obtain ⟨AM, kM, rfl⟩ := hm.form
  clear hx hp hh hf hm
  have hL := ((Lg.start w).alloc (.cells #[.slice A1 d.X.length k1, .slice A2 d.P.length k2, .slice A3 d.H.length k3] 29)).alloc (.cells #[.slice none 0 0, .slice none 0 0] 37)
  simp only [World.size_alloc] at hL
  have HL := Lib.hid hL; clear hL
  by_cases hdm : docB d = true ∧ marksB l = true
  case neg =>
    have hno : docB d = false ∨ marksB l = false := by
      cases h1 : docB d
      · exact .inl rfl
      · right
        cases h2 : marksB l
        · rfl
        · exact absurd ⟨h1, h2⟩ hdm
    rw [diffD_no hno]
    cases hd : docB d with
    | false =>
      replace HD := Lib.hid (fun W hb => (HD.out W hb).mono fun _ _ h => Tell.to h hd)
      clear hd hno hdm
      go_enter Try.func16, Try.ntmps16
      go_wp2_with fail
      refine (HD.out _ HL.out.bel).mono ?_
      rintro e w1 ⟨rfl, hb1⟩
      replace HL := Lib.hid (HL.out.lift hb1); clear hb1
      obtain ⟨y0, y1⟩ := box2 (HL.out.blk _ List.mem_cons_self)
      have f1 := box_any (HL.out.blk _ List.mem_cons_self)
      have HBX := Lib.hid (HL.out.blk _ List.mem_cons_self)
      go_wp2
      refine bodyPost_ret (v := .agg #[.slice none 0 0, .slice none 0 0]) ?_ rfl ⟨_, rfl, ⟨_, _, rfl, World.ownsRow_nil _ _ _ _, World.ownsRow_nil _ _ _ _⟩, ?_⟩
      · apply res_upd (b := w.heap.size + 1) _ (by kernel_rfl)
        · rfl
        · repeat (first | with_reducible apply block_set | with_reducible exact HBX.out)
        · simp only [List.setIfInBounds_toArray, List.set_cons_zero, List.set_cons_succ]
      · refine HL.out.bel.trans ?_
        (repeat (first | with_reducible refine bset ?_ _ (by omega) | with_reducible refine ball ?_ _ (by first | exact Nat.le_refl _ | (simp only [World.size_alloc, World.size_setCell]; omega)) | with_reducible exact Below.refl _ _ | with_reducible refine Below.drew ?_))
    | true =>
      have hmk : marksB l = false := by rcases hno with h | h; rw [hd] at h; cases h; exact h
      replace HD := Lib.hid (fun W hb => (HD.out W hb).mono fun _ _ h => Tell.to h hd)
      replace HM := Lib.hid (fun W hb => (HM.out W hb).mono fun _ _ h => Tell.to h hmk)
      clear hd hno hdm hmk
      go_enter Try.func16, Try.ntmps16
      go_wp2_with fail
      refine (HD.out _ HL.out.bel).mono ?_
      rintro e w1 ⟨rfl, hb1⟩
      replace HL := Lib.hid (HL.out.lift hb1); clear hb1
      go_wp2_with fail
      refine (HM.out _ HL.out.bel).mono ?_
      rintro e w1b ⟨rfl, hb1⟩
      replace HL := Lib.hid (HL.out.lift hb1); clear hb1
      obtain ⟨y0, y1⟩ := box2 (HL.out.blk _ List.mem_cons_self)
      have f1 := box_any (HL.out.blk _ List.mem_cons_self)
      have HBX := Lib.hid (HL.out.blk _ List.mem_cons_self)
      go_wp2
      refine bodyPost_ret (v := .agg #[.slice none 0 0, .slice none 0 0]) ?_ rfl ⟨_, rfl, ⟨_, _, rfl, World.ownsRow_nil _ _ _ _, World.ownsRow_nil _ _ _ _⟩, ?_⟩
      · apply res_upd (b := w.heap.size + 1) _ (by kernel_rfl)
        · rfl
        · repeat (first | with_reducible apply block_set | with_reducible exact HBX.out)
        · simp only [List.setIfInBounds_toArray, List.set_cons_zero, List.set_cons_succ]
      · refine HL.out.bel.trans ?_
        (repeat (first | with_reducible refine bset ?_ _ (by omega) | with_reducible refine ball ?_ _ (by first | exact Nat.le_refl _ | (simp only [World.size_alloc, World.size_setCell]; omega)) | with_reducible exact Below.refl _ _ | with_reducible refine Below.drew ?_))
  obtain ⟨hd, hmk⟩ := hdm
  rw [diffD_yes hd hmk]
  replace HD := Lib.hid (fun W hb => (HD.out W hb).mono fun _ _ h => Tell.to h hd)
  replace HM := Lib.hid (fun W hb => (HM.out W hb).mono fun _ _ h => Tell.to h hmk)
  have hdp := (docB_iff d).1 hd
  have h60 : d.X.length ≤ 60 := hdp.1.1
  have h20 := hdp.2.1
  have h21 := hdp.2.2.1
  replace HNI := Lib.hid (HNI.out ((marksB_iff l).1 hmk).2.2)
  replace HAN := Lib.hid (HAN.out (by omega) (by omega) (by omega) (fun x hx => by
    obtain ⟨i, hi, rfl⟩ := List.getElem_of_mem hx
    have := (hdp.1.2 i hi hi).1.2.2.2.1.1; omega) (fun x hx => by
    obtain ⟨i, hi, rfl⟩ := List.getElem_of_mem hx
    have := (hdp.2.2.2.1 i hi hi).1.2.2.2.1.1; omega))
  have HRX := Lib.hid (diffX_rise d.X l)
  have HRH := Lib.hid (diffH_rise d.X d.H (holes_rise hdp))
  clear hd hmk hdp
  go_enter Try.func16, Try.ntmps16
  go_wp2_with fail
  refine (HD.out _ HL.out.bel).mono ?_
  rintro e w1 ⟨rfl, hb1⟩
  replace HL := Lib.hid (HL.out.lift hb1); clear hb1
  go_wp2_with fail
  refine (HM.out _ HL.out.bel).mono ?_
  rintro e w2 ⟨rfl, hb1⟩
  replace HL := Lib.hid (HL.out.lift hb1); clear hb1
  obtain ⟨x0, x1, x2⟩ := box3 (HL.out.blk _ (List.mem_cons_of_mem _ List.mem_cons_self))
  go_wp2_with fail
  refine (HAN.out _ HL.out.bel).mono ?_
  intro e w3 h3
  obtain ⟨C1, e1, C2, e2, C3, e3, rfl, ho3, hb3⟩ := h3.parts
  obtain ⟨u1, u2, u3, hu, hX, hP, hH⟩ := ho3
  simp only [Value.agg.injEq, Array.mk.injEq, List.cons.injEq, and_true] at hu
  obtain ⟨rfl, rfl, rfl⟩ := hu
  have hz2 := HL.out.bel.size
  have hrb : w3.heap[w.heap.size + 1]? = some (.cells #[.slice none 0 0, .slice none 0 0] 37 (0, 0)) := keep_blk hb3 (HL.out.blk _ List.mem_cons_self)
  have HL0 := Lib.hid (show Lg w (w3.alloc (.cells #[.slice C1 d.X.length e1, .slice C2 d.P.length e2, .slice C3 d.H.length e3] 29)) [(w.heap.size + 1, .cells #[.slice none 0 0, .slice none 0 0] 37 (0, 0))] [fun W => Ow W w.heap.size 91 8 encM (.slice none 0 0) [], fun W => Ow W w.heap.size 89 2 encN (.slice C3 d.H.length e3) d.H, fun W => Ow W w.heap.size 91 8 encM (.slice C1 d.X.length e1) d.X] from
    ((((Lg.mk (HL.out.bel.trans (hb3.mono hz2)) (fun p hp => by simp only [List.mem_cons, List.not_mem_nil, or_false] at hp; subst hp; exact hrb) (fun p hp => absurd hp (by simp)) (fun p hp => absurd hp (by simp))).add (hX.base hz2) (fun _ _ hb h => Ow.lift h hb)).add (hH.base hz2) (fun _ _ hb h => Ow.lift h hb)).add (World.ownsRow_nil _ _ _ _) (fun _ _ hb h => Ow.lift h hb)).lift ((Below.refl _ _).alloc (Nat.le_refl _) _))
  clear x0 x1 x2 h3 hX hP hH hrb hb3 HL
  go_wp2
  go_loopw [6, 7, 26] (fun a b i wr => ∃ (k : Nat) (B1 : Option Addr) (c1 : Nat) (B2 : Option Addr) (c2 : Nat), k ≤ d.X.length ∧ i = .int .i64 k ∧ a = .slice B1 (diffX d.X l k).length c1 ∧ b = .slice B2 (diffH d.X d.H k).length c2 ∧
    Lg w wr [(w.heap.size + 1, .cells #[.slice none 0 0, .slice none 0 0] 37 (0, 0))] [fun W => Ow W w.heap.size 91 8 encM (.slice B1 (diffX d.X l k).length c1) (diffX d.X l k), fun W => Ow W w.heap.size 89 2 encN (.slice B2 (diffH d.X d.H k).length c2) (diffH d.X d.H k), fun W => Ow W w.heap.size 91 8 encM (.slice C1 d.X.length e1) d.X]) (fun _ _ i _ => d.X.length - (intOf i).toNat)
  case atStart => exact ⟨0, _, _, _, _, Nat.zero_le _, rfl, rfl, rfl, HL0.out⟩
  case round =>
    clear HL0
    obtain ⟨k, B1, c1, B2, c2, hk, rfl, rfl, rfl, hL⟩ := hrel
    have HL := Lib.hid hL; clear hL
    by_cases hlt : k < d.X.length
    case neg =>
      obtain rfl : k = d.X.length := by omega
      obtain ⟨y0, y1⟩ := box2 (HL.out.blk _ List.mem_cons_self)
      have f1 := box_any (HL.out.blk _ List.mem_cons_self)
      have HBX := Lib.hid (HL.out.blk _ List.mem_cons_self)
      go_wp2
      refine bodyPost_ret (v := .agg #[.slice B1 (diffX d.X l d.X.length).length c1, .slice B2 (diffH d.X d.H d.X.length).length c2]) ?_ rfl ⟨_, rfl, ⟨_, _, rfl, ?_, ?_⟩, ?_⟩
      · apply res_upd (b := w.heap.size + 1) _ (by kernel_rfl)
        · rfl
        · repeat (first | with_reducible apply block_set | with_reducible exact HBX.out)
        · simp only [List.setIfInBounds_toArray, List.set_cons_zero, List.set_cons_succ]
      · exact own_box (own_box (HL.out.now _ List.mem_cons_self) HBX.out (by decide) _) (block_set HBX.out _ _) (by decide) _
      · exact own_box (own_box (HL.out.now _ (List.mem_cons_of_mem _ List.mem_cons_self)) HBX.out (by decide) _) (block_set HBX.out _ _) (by decide) _
      · refine HL.out.bel.trans ?_
        (repeat (first | with_reducible refine bset ?_ _ (by omega) | with_reducible refine ball ?_ _ (by first | exact Nat.le_refl _ | (simp only [World.size_alloc, World.size_setCell]; omega)) | with_reducible exact Below.refl _ _ | with_reducible refine Below.drew ?_))
    obtain ⟨ad, c', e', _, c0, c1', c2', c3, c4, c5, c6', c7⟩ := (Ow.sl (HL.out.now _ (List.mem_cons_of_mem _ (List.mem_cons_of_mem _ List.mem_cons_self))) encM_len).item k hlt
    simp only [Value.slice.injEq, true_and] at e'
    obtain ⟨rfl, rfl⟩ := e'
    have HY1 := Lib.hid (fun h => diffX_yes (l := l) hlt h); have HY0 := Lib.hid (fun h => diffX_not (l := l) hlt h)
    have HH1 := Lib.hid (fun h => diffH_yes (H := d.H) hlt h); have HH0 := Lib.hid (fun h => diffH_not (H := d.H) hlt h)
    have HXL := Lib.hid (HRX.out k hk); have HHL := Lib.hid (HRH.out k hk)
    obtain ⟨x, hx⟩ : ∃ x, x = d.X[k] := ⟨_, rfl⟩
    rw [← hx] at c0 c1' c2' c3 c4 c5 c6' c7 HY1 HY0 HH1 HH0
    clear hx
    have HNX := Lib.hid (HNI.out x.i.c)
    obtain ⟨q, hq⟩ : ∃ q, q = ofK l x.i.c := ⟨_, rfl⟩
    rw [← hq] at HNX HY1 HY0
    clear hq
    obtain ⟨LX, hLX⟩ : ∃ LX, LX = diffX d.X l k := ⟨_, rfl⟩
    rw [← hLX] at HL HXL HY1 HY0 ⊢
    clear hLX
    obtain ⟨LH, hLH⟩ : ∃ LH, LH = diffH d.X d.H k := ⟨_, rfl⟩
    rw [← hLH] at HL HHL HH1 HH0 ⊢
    clear hLH
    have hwz := HL.out.bel.size
    have hrl := block_lt (HL.out.blk _ List.mem_cons_self)
    have HXS := Lib.hid (show w.heap.size ≤ wr.heap.size from hwz)
    have HXN := Lib.hid (show w.heap.size + 1 ≠ wr.heap.size by omega)
    have HXB := Lib.hid (show ∀ g, (Value.slice B1 LX.length c1).ownBlock = some g → g < wr.heap.size from fun g hg => (Ow.lies (HL.out.now _ List.mem_cons_self) g hg).2)
    have HXB2 := Lib.hid (show ∀ g, (Value.slice (some ad) d.X.length e1).ownBlock = some g → g < wr.heap.size from fun g hg => (Ow.lies (HL.out.now _ (List.mem_cons_of_mem _ (List.mem_cons_of_mem _ List.mem_cons_self))) g hg).2)
    clear hwz hrl
    replace HL := Lib.hid (HL.out.alloc (.cells #[.int .i64 x.i.c, .int .i64 x.i.k, .int .i64 x.l.c, .int .i64 x.l.k, .int .i64 x.r.c, .int .i64 x.r.k, .string x.t, .bool x.g] 91))
    cases hg : x.g with
    | true =>
      have HSH := Lib.hid (HH1.out hg)
      have hLg := HL.out
      rw [hg] at hLg
      replace HL := Lib.hid hLg; clear hLg
      obtain ⟨y0, y1, y2, y3, y4, y5, y6, y7⟩ := box8 (HL.out.blk _ List.mem_cons_self)
      go_wp2_with fail
      refine (impl_withI _ LH x.i w.heap.size _ (HL.out.now _ (List.mem_cons_of_mem _ List.mem_cons_self)) (by have := HHL.out.2; omega) HHL.out.1).mono ?_
      intro e w6 h6
      obtain ⟨v6, rfl, hb6, ho6⟩ := h6.own (HL.out.now _ (List.mem_cons_of_mem _ List.mem_cons_self)) (by have := HL.out.bel.size; omega)
      obtain ⟨A6, c6, rfl⟩ := ho6.form
      replace HL := Lib.hid (((HL.out.lift hb6).add (p := fun W => Ow W w.heap.size 89 2 encN (.slice A6 (withR nmI LH x.i).length c6) (withR nmI LH x.i)) ho6 (fun _ _ hb h => Ow.lift h hb)).sub (L' := [(wr.heap.size, .cells #[.int .i64 x.i.c, .int .i64 x.i.k, .int .i64 x.l.c, .int .i64 x.l.k, .int .i64 x.r.c, .int .i64 x.r.k, .string x.t, .bool true] 91 (0, 0)), (w.heap.size + 1, .cells #[.slice none 0 0, .slice none 0 0] 37 (0, 0))]) (F' := [fun W => Ow W w.heap.size 91 8 encM (.slice B1 LX.length c1) LX, fun W => Ow W w.heap.size 89 2 encN (.slice A6 (withR nmI LH x.i).length c6) (withR nmI LH x.i), fun W => Ow W w.heap.size 91 8 encM (.slice (some ad) d.X.length e1) d.X]) (fun p hp => hp) (fun p hp => by
        simp only [List.mem_cons, List.not_mem_nil, or_false] at hp ⊢
        rcases hp with rfl | rfl | rfl
        · exact .inr (.inl rfl)
        · exact .inl rfl
        · exact .inr (.inr (.inr rfl))))
      clear hb6 ho6 h6
      clear y0 y1 y2 y3 y4 y5 y6 y7
      go_upto_region 11 with fail
      refine wp_region_calm_lg (told [(7, fun u' => u' = .int .i64 q)]) (by kernel_rfl) (by kernel_rfl) (told_mono _) HL.out ?_
      repeat (first
        | (refine calm_skip (by rfl) ?_; try simp only [Act.put, List.setIfInBounds_toArray, List.set_cons_zero, List.set_cons_succ])
        | (refine calm_plain (by rfl) (by rfl) ?_; apply Exists.intro; refine ⟨fun wc hC hD => ?_, ?_⟩; (focus (clear hD; obtain ⟨y0, y1, y2, y3, y4, y5, y6, y7⟩ := box8 (hC.blk _ List.mem_cons_self); clear hC; go_simp; first | done | with_reducible rfl)); try simp only [Act.put, List.setIfInBounds_toArray, List.set_cons_zero, List.set_cons_succ]))
      refine calm_call _ _ (by rfl) (by rfl) ?_ ?_
      focus
        apply Exists.intro
        apply Exists.intro
        refine ⟨fun wc hC hD => ?_, fun wc hC hD => ?_⟩
        focus (clear hD; obtain ⟨y0, y1, y2, y3, y4, y5, y6, y7⟩ := box8 (hC.blk _ List.mem_cons_self); clear hC; go_simp; first | done | with_reducible exact ⟨rfl, rfl⟩ | with_reducible rfl)
        clear hD
        with_reducible refine (HNX.out _ hC.bel).mono ?_
        rintro e wx ⟨rfl, hb⟩
        exact ⟨_, rfl, hb, rfl, trivial⟩
      rintro _ rfl
      try simp only [Act.put, List.setIfInBounds_toArray, List.set_cons_zero, List.set_cons_succ]
      repeat (first
        | (refine calm_skip (by rfl) ?_; try simp only [Act.put, List.setIfInBounds_toArray, List.set_cons_zero, List.set_cons_succ])
        | (refine calm_plain (by rfl) (by rfl) ?_; apply Exists.intro; refine ⟨fun wc hC hD => ?_, ?_⟩; (focus (clear hD; obtain ⟨y0, y1, y2, y3, y4, y5, y6, y7⟩ := box8 (hC.blk _ List.mem_cons_self); clear hC; go_simp; first | done | with_reducible rfl)); try simp only [Act.put, List.setIfInBounds_toArray, List.set_cons_zero, List.set_cons_succ]))
      refine calm_end ?_
      intro w7 hL7 hF7
      clear hF7
      replace HL := Lib.hid hL7
      clear hL7
      by_cases hge : q ≤ x.i.k
      · have HSX := Lib.hid (HY1.out hge)
        obtain ⟨y0, y1, y2, y3, y4, y5, y6, y7⟩ := box8 (HL.out.blk _ List.mem_cons_self)
        have f1 := box_any (HL.out.blk _ List.mem_cons_self)
        have hbk := HL.out.blk _ List.mem_cons_self
        have hwx := HL.out.bel.size
        replace HL := Lib.hid (HL.out.put 7 (.bool false) HXS.out (by
          intro p hp
          simp only [List.mem_cons, List.not_mem_nil, or_false] at hp
          subst hp
          exact HXN.out) (F' := [fun W => Ow W w.heap.size 91 8 encM (.slice B1 LX.length c1) LX, fun W => Ow W w.heap.size 89 2 encN (.slice A6 (withR nmI LH x.i).length c6) (withR nmI LH x.i), fun W => Ow W w.heap.size 91 8 encM (.slice (some ad) d.X.length e1) d.X]) (by
          intro p hp
          simp only [List.mem_cons, List.not_mem_nil, or_false] at hp
          rcases hp with rfl | rfl | rfl
          · exact own_xb (HL.out.now _ List.mem_cons_self) hbk HXB.out _
          · exact own_box (HL.out.now _ (List.mem_cons_of_mem _ List.mem_cons_self)) hbk (by decide) _
          · exact own_xb2 (HL.out.now _ (List.mem_cons_of_mem _ (List.mem_cons_of_mem _ List.mem_cons_self))) HXB2.out _) (fun p hp => by
          simp only [List.mem_cons, List.not_mem_nil, or_false] at hp
          rcases hp with rfl | rfl | rfl <;> exact fun _ _ hb h => Ow.lift h hb))
        go_wp2_with fail
        refine (impl_withM _ LX (offM x) w.heap.size _ (HL.out.now _ List.mem_cons_self) (by have := HXL.out.2; omega) HXL.out.1).mono ?_
        intro e w8 h8
        obtain ⟨v8, rfl, hb8, ho8⟩ := h8.own (HL.out.now _ List.mem_cons_self) (by have := HL.out.bel.size; omega)
        obtain ⟨A8, c8, rfl⟩ := ho8.form
        replace HL := Lib.hid ((HL.out.lift hb8).add (p := fun W => Ow W w.heap.size 91 8 encM (.slice A8 (withR Im.i LX (offM x)).length c8) (withR Im.i LX (offM x))) ho8 (fun _ _ hb h => Ow.lift h hb))
        clear hb8 ho8 h8 hbk f1
        clear y0 y1 y2 y3 y4 y5 y6 y7
        go_wp2
        go_roundw
        case rel => exact ⟨k + 1, A8, c8, A6, c6, by omega, by go_num, by rw [HSX.out], by rw [HSH.out], by
          rw [HSX.out, HSH.out]
          exact HL.out.sub (fun p hp => List.mem_cons_of_mem _ hp) (fun p hp => by
            simp only [List.mem_cons, List.not_mem_nil, or_false] at hp ⊢
            rcases hp with rfl | rfl | rfl
            · exact .inl rfl
            · exact .inr (.inr (.inl rfl))
            · exact .inr (.inr (.inr rfl)))⟩
        case measure => simp [intOf]; omega
      · have HSX := Lib.hid (HY0.out (by omega))
        go_wp2
        go_roundw
        case rel => exact ⟨k + 1, B1, c1, A6, c6, by omega, by go_num, by rw [HSX.out], by rw [HSH.out], by
          rw [HSX.out, HSH.out]
          exact HL.out.sub (fun p hp => List.mem_cons_of_mem _ hp) (fun p hp => by
            simp only [List.mem_cons, List.not_mem_nil, or_false] at hp ⊢
            rcases hp with rfl | rfl | rfl
            · exact .inl rfl
            · exact .inr (.inl rfl)
            · exact .inr (.inr rfl))⟩
        case measure => simp [intOf]; omega
    | false =>
      have HSH := Lib.hid (HH0.out (by rw [hg]; exact Bool.false_ne_true))
      have hLg := HL.out
      rw [hg] at hLg
      replace HL := Lib.hid hLg; clear hLg
      go_upto_region 11 with fail
      refine wp_region_calm_lg (told [(7, fun u' => u' = .int .i64 q)]) (by kernel_rfl) (by kernel_rfl) (told_mono _) HL.out ?_
      repeat (first
        | (refine calm_skip (by rfl) ?_; try simp only [Act.put, List.setIfInBounds_toArray, List.set_cons_zero, List.set_cons_succ])
        | (refine calm_plain (by rfl) (by rfl) ?_; apply Exists.intro; refine ⟨fun wc hC hD => ?_, ?_⟩; (focus (clear hD; obtain ⟨y0, y1, y2, y3, y4, y5, y6, y7⟩ := box8 (hC.blk _ List.mem_cons_self); clear hC; go_simp; first | done | with_reducible rfl)); try simp only [Act.put, List.setIfInBounds_toArray, List.set_cons_zero, List.set_cons_succ]))
      refine calm_call _ _ (by rfl) (by rfl) ?_ ?_
      focus
        apply Exists.intro
        apply Exists.intro
        refine ⟨fun wc hC hD => ?_, fun wc hC hD => ?_⟩
        focus (clear hD; obtain ⟨y0, y1, y2, y3, y4, y5, y6, y7⟩ := box8 (hC.blk _ List.mem_cons_self); clear hC; go_simp; first | done | with_reducible exact ⟨rfl, rfl⟩ | with_reducible rfl)
        clear hD
        with_reducible refine (HNX.out _ hC.bel).mono ?_
        rintro e wx ⟨rfl, hb⟩
        exact ⟨_, rfl, hb, rfl, trivial⟩
      rintro _ rfl
      try simp only [Act.put, List.setIfInBounds_toArray, List.set_cons_zero, List.set_cons_succ]
      repeat (first
        | (refine calm_skip (by rfl) ?_; try simp only [Act.put, List.setIfInBounds_toArray, List.set_cons_zero, List.set_cons_succ])
        | (refine calm_plain (by rfl) (by rfl) ?_; apply Exists.intro; refine ⟨fun wc hC hD => ?_, ?_⟩; (focus (clear hD; obtain ⟨y0, y1, y2, y3, y4, y5, y6, y7⟩ := box8 (hC.blk _ List.mem_cons_self); clear hC; go_simp; first | done | with_reducible rfl)); try simp only [Act.put, List.setIfInBounds_toArray, List.set_cons_zero, List.set_cons_succ]))
      refine calm_end ?_
      intro w7 hL7 hF7
      clear hF7
      replace HL := Lib.hid hL7
      clear hL7
      by_cases hge : q ≤ x.i.k
      · have HSX := Lib.hid (HY1.out hge)
        obtain ⟨y0, y1, y2, y3, y4, y5, y6, y7⟩ := box8 (HL.out.blk _ List.mem_cons_self)
        have f1 := box_any (HL.out.blk _ List.mem_cons_self)
        have hbk := HL.out.blk _ List.mem_cons_self
        have hwx := HL.out.bel.size
        replace HL := Lib.hid (HL.out.put 7 (.bool false) HXS.out (by
          intro p hp
          simp only [List.mem_cons, List.not_mem_nil, or_false] at hp
          subst hp
          exact HXN.out) (F' := [fun W => Ow W w.heap.size 91 8 encM (.slice B1 LX.length c1) LX, fun W => Ow W w.heap.size 89 2 encN (.slice B2 (LH).length c2) (LH), fun W => Ow W w.heap.size 91 8 encM (.slice (some ad) d.X.length e1) d.X]) (by
          intro p hp
          simp only [List.mem_cons, List.not_mem_nil, or_false] at hp
          rcases hp with rfl | rfl | rfl
          · exact own_xb (HL.out.now _ List.mem_cons_self) hbk HXB.out _
          · exact own_box (HL.out.now _ (List.mem_cons_of_mem _ List.mem_cons_self)) hbk (by decide) _
          · exact own_xb2 (HL.out.now _ (List.mem_cons_of_mem _ (List.mem_cons_of_mem _ List.mem_cons_self))) HXB2.out _) (fun p hp => by
          simp only [List.mem_cons, List.not_mem_nil, or_false] at hp
          rcases hp with rfl | rfl | rfl <;> exact fun _ _ hb h => Ow.lift h hb))
        go_wp2_with fail
        refine (impl_withM _ LX (offM x) w.heap.size _ (HL.out.now _ List.mem_cons_self) (by have := HXL.out.2; omega) HXL.out.1).mono ?_
        intro e w8 h8
        obtain ⟨v8, rfl, hb8, ho8⟩ := h8.own (HL.out.now _ List.mem_cons_self) (by have := HL.out.bel.size; omega)
        obtain ⟨A8, c8, rfl⟩ := ho8.form
        replace HL := Lib.hid ((HL.out.lift hb8).add (p := fun W => Ow W w.heap.size 91 8 encM (.slice A8 (withR Im.i LX (offM x)).length c8) (withR Im.i LX (offM x))) ho8 (fun _ _ hb h => Ow.lift h hb))
        clear hb8 ho8 h8 hbk f1
        clear y0 y1 y2 y3 y4 y5 y6 y7
        go_wp2
        go_roundw
        case rel => exact ⟨k + 1, A8, c8, B2, c2, by omega, by go_num, by rw [HSX.out], by rw [HSH.out], by
          rw [HSX.out, HSH.out]
          exact HL.out.sub (fun p hp => List.mem_cons_of_mem _ hp) (fun p hp => by
            simp only [List.mem_cons, List.not_mem_nil, or_false] at hp ⊢
            rcases hp with rfl | rfl | rfl
            · exact .inl rfl
            · exact .inr (.inr (.inl rfl))
            · exact .inr (.inr (.inr rfl)))⟩
        case measure => simp [intOf]; omega
      · have HSX := Lib.hid (HY0.out (by omega))
        go_wp2
        go_roundw
        case rel => exact ⟨k + 1, B1, c1, B2, c2, by omega, by go_num, by rw [HSX.out], by rw [HSH.out], by
          rw [HSX.out, HSH.out]
          exact HL.out.sub (fun p hp => List.mem_cons_of_mem _ hp) (fun p hp => by
            simp only [List.mem_cons, List.not_mem_nil, or_false] at hp ⊢
            rcases hp with rfl | rfl | rfl
            · exact .inl rfl
            · exact .inr (.inl rfl)
            · exact .inr (.inr rfl))⟩
        case measure => simp [intOf]; omega

end Go.Proofs.Ytaggmcdfggmlhaa
