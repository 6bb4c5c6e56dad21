/-
  Delete of the model.
-/
import Derived.Test.YtmkcfjopneaimaaDelI
namespace Go.Proofs.Ytmkcfjopneaimaa
set_option linter.unusedSimpArgs false
set_option linter.unusedVariables false
open Go.ChangeShapes Go.WideShapes Go.ChangeAt Go.RowKit

set_option maxRecDepth 100000 in
set_option maxHeartbeats 4000000 in
theorem spec_delete (v : Value) (d : Dc) (p m : Int) (w : World) (hv : DcAt w w.heap.size v d) (hf : Fit d) (hp0 : -9223372036854775808 ≤ p) (hp1 : p ≤ 9223372036854775807) :
    Calls Try.prog 32 #[v, .int .i64 p, .int .i64 m] w (OwnsOc w (deleteO d p m)) := by
  have HD := Lib.hid (fun W (hb : Below w.heap.size w W) => spec_docF v d W ((hv.below hb).more hb.size) hf)
  have HAN := Lib.hid (fun (h1 : d.X.length ≤ 1048576) (h2 : d.P.length ≤ 1048576) (h3 : d.H.length ≤ 1048576) W (hb : Below w.heap.size w W) => spec_copy v d W ((hv.below hb).more hb.size) h1 h2 h3)
  have HLV := Lib.hid (fun (h0 : Ones d.X) (h : d.X.length ≤ 1048576) W (hb : Below w.heap.size w W) => spec_ltext v d W ((hv.below hb).more hb.size) h0 h)
  have HIS := Lib.hid (fun W => spec_is m 1 60 W)
  obtain ⟨vx, vp, vh, rfl, hx, hp, hh⟩ := hv
  obtain ⟨A1, k1, rfl⟩ := hx.form; obtain ⟨A2, k2, rfl⟩ := hp.form; obtain ⟨A3, k3, rfl⟩ := hh.form
  clear hx hp hh hf
  have hL := ((Lg.start w).alloc (.cells #[.slice A1 d.X.length k1, .slice A2 d.P.length k2, .slice A3 d.H.length k3] 42)).alloc (.cells #[.slice none 0 0, .slice none 0 0, .slice none 0 0, .int .i64 0] 53)
  simp only [World.size_alloc] at hL
  have HL := Lib.hid hL; clear hL
  cases hd : docB d with
  | false =>
    replace HD := Lib.hid (fun W hb => (HD.out W hb).mono fun _ _ h => Tell.to h hd)
    rw [delete_form (by rw [hd]; exact fun h => Bool.false_ne_true h.1)]
    clear hd
    go_enter Try.func32, Try.ntmps32
    go_wp2_with fail
    refine (HD.out _ HL.out.bel).mono ?_
    rintro e w1 ⟨rfl, hb1⟩
    replace HL := Lib.hid (HL.out.lift hb1); clear hb1
    obtain ⟨x0, x1, x2⟩ := box3 (HL.out.blk _ (List.mem_cons_of_mem _ List.mem_cons_self))
    obtain ⟨y0, y1, y2, y3⟩ := box4c (HL.out.blk _ List.mem_cons_self)
    have f1 := box_any (HL.out.blk _ List.mem_cons_self)
    have HBX := Lib.hid (HL.out.blk _ List.mem_cons_self)
    go_wp2
    refine bodyPost_ret (v := .agg #[.slice none 0 0, .slice none 0 0, .slice none 0 0, .int .i64 1]) ?_ rfl ⟨_, rfl, oc_ill _ _ 1, ?_⟩
    · apply res_out (b := w.heap.size + 1) _ (by kernel_rfl)
      · rfl
      · repeat (first | with_reducible apply block_set | with_reducible exact HBX.out)
      · simp only [List.setIfInBounds_toArray, List.set_cons_zero, List.set_cons_succ]
    · refine HL.out.bel.trans ?_
      (repeat (first | with_reducible refine bset ?_ _ (by omega) | with_reducible refine ball ?_ _ (by first | exact Nat.le_refl _ | (simp only [World.size_alloc, World.size_setCell]; omega)) | with_reducible exact Below.refl _ _ | with_reducible refine Below.drew ?_))
  | true =>
    replace HD := Lib.hid (fun W hb => (HD.out W hb).mono fun _ _ h => Tell.to h hd)
    have hdp := (docB_iff d).1 hd
    have hX60 : d.X.length ≤ 60 := hdp.1.1
    have hP20 := hdp.2.1
    have hH20 := hdp.2.2.1
    by_cases h1 : 1 ≤ m ∧ m ≤ 60
    case neg =>
      rw [delete_form (fun h => h1 h.2)]
      replace HIS := Lib.hid (fun W => (HIS.out W).mono fun _ _ h => Tell.to h (decide_eq_false h1))
      clear hd hdp
      go_enter Try.func32, Try.ntmps32
      go_wp2_with fail
      refine (HD.out _ HL.out.bel).mono ?_
      rintro e w1 ⟨rfl, hb1⟩
      replace HL := Lib.hid (HL.out.lift hb1); clear hb1
      obtain ⟨x0, x1, x2⟩ := box3 (HL.out.blk _ (List.mem_cons_of_mem _ List.mem_cons_self))
      obtain ⟨y0, y1, y2, y3⟩ := box4c (HL.out.blk _ List.mem_cons_self)
      have f1 := box_any (HL.out.blk _ List.mem_cons_self)
      go_wp2_with fail
      refine (HIS.out _).mono ?_
      rintro e w1b ⟨rfl, hb1⟩
      replace HL := Lib.hid (HL.out.lift hb1); clear hb1 x0 x1 x2 y0 y1 y2 y3 f1
      obtain ⟨x0, x1, x2⟩ := box3 (HL.out.blk _ (List.mem_cons_of_mem _ List.mem_cons_self))
      obtain ⟨y0, y1, y2, y3⟩ := box4c (HL.out.blk _ List.mem_cons_self)
      have f1 := box_any (HL.out.blk _ List.mem_cons_self)
      have HBX := Lib.hid (HL.out.blk _ List.mem_cons_self)
      go_wp2
      refine bodyPost_ret (v := .agg #[.slice none 0 0, .slice none 0 0, .slice none 0 0, .int .i64 1]) ?_ rfl ⟨_, rfl, oc_ill _ _ 1, ?_⟩
      · apply res_out (b := w.heap.size + 1) _ (by kernel_rfl)
        · rfl
        · repeat (first | with_reducible apply block_set | with_reducible exact HBX.out)
        · simp only [List.setIfInBounds_toArray, List.set_cons_zero, List.set_cons_succ]
      · refine HL.out.bel.trans ?_
        (repeat (first | with_reducible refine bset ?_ _ (by omega) | with_reducible refine ball ?_ _ (by first | exact Nat.le_refl _ | (simp only [World.size_alloc, World.size_setCell]; omega)) | with_reducible exact Below.refl _ _ | with_reducible refine Below.drew ?_))
    replace HIS := Lib.hid (fun W => (HIS.out W).mono fun _ _ h => Tell.to h (decide_eq_true h1))
    obtain ⟨h1, h2⟩ := h1
    have hlen := liveI_len d.X
    replace HLV := Lib.hid (HLV.out (items_ones hdp.1) (by omega))
    obtain ⟨T, hT⟩ : ∃ T, T = textB d.X := ⟨_, rfl⟩
    have hsz : T.size = (liveI d.X).length := by rw [hT, ← live_text_len (items_ones hdp.1)]; unfold textB; show (textL d.X).toArray.size = _; simp
    rw [← hT] at HLV
    clear hT
    by_cases h3 : p < 0
    · rw [delete_range ⟨hd, by omega, by omega⟩ (fun h => by omega)]
      clear hd hdp
      go_enter Try.func32, Try.ntmps32
      go_wp2_with fail
      refine (HD.out _ HL.out.bel).mono ?_
      rintro e w1 ⟨rfl, hb1⟩
      replace HL := Lib.hid (HL.out.lift hb1); clear hb1
      obtain ⟨x0, x1, x2⟩ := box3 (HL.out.blk _ (List.mem_cons_of_mem _ List.mem_cons_self))
      obtain ⟨y0, y1, y2, y3⟩ := box4c (HL.out.blk _ List.mem_cons_self)
      have f1 := box_any (HL.out.blk _ List.mem_cons_self)
      go_wp2_with fail
      refine (HIS.out _).mono ?_
      rintro e w1b ⟨rfl, hb1⟩
      replace HL := Lib.hid (HL.out.lift hb1); clear hb1 x0 x1 x2 y0 y1 y2 y3 f1
      obtain ⟨x0, x1, x2⟩ := box3 (HL.out.blk _ (List.mem_cons_of_mem _ List.mem_cons_self))
      obtain ⟨y0, y1, y2, y3⟩ := box4c (HL.out.blk _ List.mem_cons_self)
      have f1 := box_any (HL.out.blk _ List.mem_cons_self)
      have HBX := Lib.hid (HL.out.blk _ List.mem_cons_self)
      go_wp2
      refine bodyPost_ret (v := .agg #[.slice none 0 0, .slice none 0 0, .slice none 0 0, .int .i64 8]) ?_ rfl ⟨_, rfl, oc_ill _ _ 8, ?_⟩
      · apply res_out (b := w.heap.size + 1) _ (by kernel_rfl)
        · rfl
        · repeat (first | with_reducible apply block_set | with_reducible exact HBX.out)
        · simp only [List.setIfInBounds_toArray, List.set_cons_zero, List.set_cons_succ]
      · refine HL.out.bel.trans ?_
        (repeat (first | with_reducible refine bset ?_ _ (by omega) | with_reducible refine ball ?_ _ (by first | exact Nat.le_refl _ | (simp only [World.size_alloc, World.size_setCell]; omega)) | with_reducible exact Below.refl _ _ | with_reducible refine Below.drew ?_))
    by_cases h4 : ((liveI d.X).length : Int) - m < p
    · rw [delete_range ⟨hd, by omega, by omega⟩ (fun h => by omega)]
      clear hd hdp
      go_enter Try.func32, Try.ntmps32
      go_wp2_with fail
      refine (HD.out _ HL.out.bel).mono ?_
      rintro e w1 ⟨rfl, hb1⟩
      replace HL := Lib.hid (HL.out.lift hb1); clear hb1
      obtain ⟨x0, x1, x2⟩ := box3 (HL.out.blk _ (List.mem_cons_of_mem _ List.mem_cons_self))
      obtain ⟨y0, y1, y2, y3⟩ := box4c (HL.out.blk _ List.mem_cons_self)
      have f1 := box_any (HL.out.blk _ List.mem_cons_self)
      go_wp2_with fail
      refine (HIS.out _).mono ?_
      rintro e w1b ⟨rfl, hb1⟩
      replace HL := Lib.hid (HL.out.lift hb1); clear hb1 x0 x1 x2 y0 y1 y2 y3 f1
      obtain ⟨x0, x1, x2⟩ := box3 (HL.out.blk _ (List.mem_cons_of_mem _ List.mem_cons_self))
      obtain ⟨y0, y1, y2, y3⟩ := box4c (HL.out.blk _ List.mem_cons_self)
      have f1 := box_any (HL.out.blk _ List.mem_cons_self)
      go_wp2_with fail
      refine (HLV.out _ HL.out.bel).mono ?_
      rintro e w2 ⟨rfl, hb2⟩
      replace HL := Lib.hid (HL.out.lift hb2)
      clear hb2 x0 x1 x2 y0 y1 y2 y3 f1
      obtain ⟨x0, x1, x2⟩ := box3 (HL.out.blk _ (List.mem_cons_of_mem _ List.mem_cons_self))
      obtain ⟨y0, y1, y2, y3⟩ := box4c (HL.out.blk _ List.mem_cons_self)
      have f1 := box_any (HL.out.blk _ List.mem_cons_self)
      have HBX := Lib.hid (HL.out.blk _ List.mem_cons_self)
      go_wp2
      refine bodyPost_ret (v := .agg #[.slice none 0 0, .slice none 0 0, .slice none 0 0, .int .i64 8]) ?_ rfl ⟨_, rfl, oc_ill _ _ 8, ?_⟩
      · apply res_out (b := w.heap.size + 1) _ (by kernel_rfl)
        · rfl
        · repeat (first | with_reducible apply block_set | with_reducible exact HBX.out)
        · simp only [List.setIfInBounds_toArray, List.set_cons_zero, List.set_cons_succ]
      · refine HL.out.bel.trans ?_
        (repeat (first | with_reducible refine bset ?_ _ (by omega) | with_reducible refine ball ?_ _ (by first | exact Nat.le_refl _ | (simp only [World.size_alloc, World.size_setCell]; omega)) | with_reducible exact Below.refl _ _ | with_reducible refine Below.drew ?_))
    rw [delete_good ⟨hd, by omega, by omega⟩ (by omega)]
    obtain ⟨a, rfl⟩ : ∃ a : Nat, p = (a : Int) := ⟨p.toNat, by omega⟩
    obtain ⟨n, rfl⟩ : ∃ n : Nat, m = (n : Int) := ⟨m.toNat, by omega⟩
    rw [Int.toNat_natCast, Int.toNat_natCast]
    replace HAN := Lib.hid (HAN.out (by omega) (by omega) (by omega))
    have HAP := Lib.hid (fun (W : World) (base : Nat) (v : Value) (h : DcOw W base v d) => apart_unlike h (wait_unlike hdp))
    clear hd hdp
    go_enter Try.func32, Try.ntmps32
    go_wp2_with fail
    refine (HD.out _ HL.out.bel).mono ?_
    rintro e w1 ⟨rfl, hb1⟩
    replace HL := Lib.hid (HL.out.lift hb1); clear hb1
    obtain ⟨x0, x1, x2⟩ := box3 (HL.out.blk _ (List.mem_cons_of_mem _ List.mem_cons_self))
    obtain ⟨y0, y1, y2, y3⟩ := box4c (HL.out.blk _ List.mem_cons_self)
    have f1 := box_any (HL.out.blk _ List.mem_cons_self)
    go_wp2_with fail
    refine (HIS.out _).mono ?_
    rintro e w1b ⟨rfl, hb1⟩
    replace HL := Lib.hid (HL.out.lift hb1); clear hb1 x0 x1 x2 y0 y1 y2 y3 f1
    obtain ⟨x0, x1, x2⟩ := box3 (HL.out.blk _ (List.mem_cons_of_mem _ List.mem_cons_self))
    obtain ⟨y0, y1, y2, y3⟩ := box4c (HL.out.blk _ List.mem_cons_self)
    have f1 := box_any (HL.out.blk _ List.mem_cons_self)
    go_wp2_with fail
    refine (HLV.out _ HL.out.bel).mono ?_
    rintro e w2 ⟨rfl, hb2⟩
    replace HL := Lib.hid (HL.out.lift hb2)
    clear hb2 x0 x1 x2 y0 y1 y2 y3 f1
    obtain ⟨x0, x1, x2⟩ := box3 (HL.out.blk _ (List.mem_cons_of_mem _ List.mem_cons_self))
    obtain ⟨y0, y1, y2, y3⟩ := box4c (HL.out.blk _ List.mem_cons_self)
    have f1 := box_any (HL.out.blk _ List.mem_cons_self)
    go_wp2_with fail
    refine (HAN.out _ HL.out.bel).mono ?_
    intro e w3 h3
    obtain ⟨B1, e1, B2, e2, B3, e3, rfl, ho3, hb3⟩ := h3.parts
    have hap := HAP.out _ _ _ ho3 _ _ _ rfl
    obtain ⟨u1, u2, u3, hu, hX, hP, hH⟩ := ho3
    simp only [Value.agg.injEq, Array.mk.injEq, List.cons.injEq, and_true] at hu
    obtain ⟨rfl, rfl, rfl⟩ := hu
    obtain ⟨g, rfl, hg1, hg2⟩ := own_form hX (by omega)
    have HPG := Lib.hid (show 0 < d.P.length → (Value.slice B2 d.P.length e2).ownBlock ≠ some g from fun h0 he => hap (by omega) h0 he.symm)
    have HHG := Lib.hid (show 0 < d.H.length → (Value.slice B3 d.H.length e3).ownBlock ≠ some g from fun h0 he => by
      rcases Ow.apart hH hX (by decide) with h | h
      · rw [h] at he; cases he
      · exact h he)
    clear x0 x1 x2 y0 y1 y2 y3 f1 h3 hap
    have HX := Lib.hid hX; have HP := Lib.hid hP; have HH := Lib.hid hH; have HB3 := Lib.hid hb3
    clear hX hP hH hb3
    have hz := HB3.out.size
    have hz1 := block_lt (HL.out.blk _ List.mem_cons_self)
    go_wp2
    go_loopw [2] (fun i wr => ∃ j : Nat, j ≤ n ∧ i = .int .i64 ((n - j : Nat) : Int) ∧ wr.heap[w3.heap.size]? = some (.cells #[.slice (some ⟨g, 0, none⟩) d.X.length e1, .slice B2 d.P.length e2, .slice B3 d.H.length e3] 42 (0, 0)) ∧ wr.ownsRow w2.heap.size 30 8 (.slice (some ⟨g, 0, none⟩) d.X.length e1) d.X.length ((goneJ d.X a j).flatMap encM) ∧ Ow wr w2.heap.size 30 8 encM (.slice B2 d.P.length e2) d.P ∧ Ow wr w2.heap.size 28 2 encN (.slice B3 d.H.length e3) d.H ∧ Below w2.heap.size w2 wr) (fun i _ => (intOf i).toNat)
    case atStart =>
      refine ⟨0, Nat.zero_le _, by rw [Nat.sub_zero], ?_, ?_, ?_, ?_, ?_⟩
      · exact heap_alloc_new _ _
      · exact HX.out.lift (ball (Below.refl _ _) _ (Nat.le_refl _))
      · exact HP.out.lift (ball (Below.refl _ _) _ (Nat.le_refl _))
      · exact HH.out.lift (ball (Below.refl _ _) _ (Nat.le_refl _))
      · exact ball HB3.out _ hz
    case round =>
      obtain ⟨j, hj, rfl, hbx, hX, hP, hH, hb⟩ := hrel
      have HBX := Lib.hid hbx; have HXJ := Lib.hid hX; have HPJ := Lib.hid hP; have HHJ := Lib.hid hH; have HB := Lib.hid hb
      by_cases hlt : j < n
      · obtain ⟨p, hp, hlp, hgp⟩ := liveI_at (l := d.X) (k := a + j) (by omega)
        have hga := goneJ_at (l := d.X) (a := a) (j := j) (by omega)
        rw [hlp] at hga
        have HXO := Lib.hid (show Ow wr w2.heap.size 30 8 encM (.slice (some ⟨g, 0, none⟩) d.X.length e1) (goneJ d.X a j) from by unfold Ow; rw [goneJ_len]; exact hX)
        have HLVJ := Lib.hid (fun W (hb : Below wr.heap.size wr W) => spec_live (.slice (some ⟨g, 0, none⟩) d.X.length e1) (goneJ d.X a j) a p W ((HXO.out.lift hb).sl encM_len) (by rw [goneJ_len]; omega) hga)
        have HS := Lib.hid (goneJ_succ (l := d.X) (a := a) (j := j) (by omega))
        rw [hlp, Int.toNat_natCast] at HS
        have HL0 := HL
        replace HL := Lib.hid ((Lg.start wr).know hbx)
        have hpos : 0 < n - j := by omega
        clear hbx hX hP hH hb hlp hgp hga
        go_upto_region 8 with fail
        refine wp_region_calm_lg_tail [(5, (fun u => u = .int .i64 (p : Int)), fun _ _ => True)] 8 (by kernel_rfl) (by kernel_rfl) (by intro x hx v; rw [List.mem_singleton.1 hx]; exact fun _ _ _ h => h) HL.out ?_
        repeat (first
          | (refine calm_skip (by rfl) ?_; try simp only [Act.put, List.setIfInBounds_toArray, List.set_cons_zero, List.set_cons_succ])
          | (refine calm_plain (by rfl) (by rfl) ?_; apply Exists.intro; refine ⟨fun wc hC hD => ?_, ?_⟩; (focus (clear hD; obtain ⟨x0, x1, x2⟩ := box3 (hC.blk _ List.mem_cons_self); clear hC; go_simp; first | done | with_reducible rfl)); try simp only [Act.put, List.setIfInBounds_toArray, List.set_cons_zero, List.set_cons_succ]))
        refine calm_call _ _ (by rfl) (by rfl) ?_ ?_
        focus
          apply Exists.intro
          apply Exists.intro
          refine ⟨fun wc hC hD => ?_, fun wc hC hD => ?_⟩
          focus (clear hD; obtain ⟨x0, x1, x2⟩ := box3 (hC.blk _ List.mem_cons_self); clear hC; go_simp; first | done | with_reducible exact ⟨rfl, rfl⟩)
          clear hD
          with_reducible refine (HLVJ.out _ hC.bel).mono ?_
          rintro e wx ⟨rfl, hb⟩
          exact ⟨_, rfl, hb, rfl, trivial⟩
        rintro _ rfl
        try simp only [Act.put, List.setIfInBounds_toArray, List.set_cons_zero, List.set_cons_succ]
        repeat (first
          | (refine calm_skip (by rfl) ?_; try simp only [Act.put, List.setIfInBounds_toArray, List.set_cons_zero, List.set_cons_succ])
          | (refine calm_plain (by rfl) (by rfl) ?_; apply Exists.intro; refine ⟨fun wc hC hD => ?_, ?_⟩; (focus (clear hD; obtain ⟨x0, x1, x2⟩ := box3 (hC.blk _ List.mem_cons_self); clear hC; go_simp; first | done | with_reducible rfl)); try simp only [Act.put, List.setIfInBounds_toArray, List.set_cons_zero, List.set_cons_succ]))
        refine calm_end ?_
        intro w7 hL7 hF7
        clear hF7
        replace HL := Lib.hid hL7
        clear hL7
        simp only [List.drop_succ_cons, List.drop_zero]
        obtain ⟨x0, x1, x2⟩ := box3 (HL.out.blk _ List.mem_cons_self)
        obtain ⟨u, p0, f0⟩ := own_cell (own_lift HXJ.out HL.out.bel) (p * 8 + 7) (by omega)
        go_wp2
        go_roundw
        case rel => exact ⟨j + 1, by omega, by go_num, set_there (HL.out.blk _ List.mem_cons_self) _ (by omega), by rw [HS.out, ← setG_enc _ p (by rw [goneJ_len]; exact hp)]; exact ((own_lift HXJ.out HL.out.bel).stored (p * 8 + 7) (.bool true)).1, own_beside (HPJ.out.lift HL.out.bel) HPG.out _, own_beside (HHJ.out.lift HL.out.bel) HHG.out _, bset (HB.out.trans (HL.out.bel.mono HB.out.size)) _ (by omega)⟩
        case measure => simp [intOf]; omega
      · obtain rfl : j = n := by omega
        have hz0 : j - j = 0 := by omega
        have HLR := Lib.hid (HL.out.lift hb)
        obtain ⟨x0, x1, x2⟩ := box3 hbx
        obtain ⟨y0, y1, y2, y3⟩ := box4c (HLR.out.blk _ List.mem_cons_self)
        have f1 := box_any (HLR.out.blk _ List.mem_cons_self)
        have HBZ := Lib.hid (HLR.out.blk _ List.mem_cons_self)
        have HXO := Lib.hid (show Ow wr w2.heap.size 30 8 encM (.slice (some ⟨g, 0, none⟩) d.X.length e1) (goneJ d.X a j) from by unfold Ow; rw [goneJ_len]; exact hX)
        clear hbx hX hP hH hb
        go_wp2
        refine bodyPost_ret (v := .agg #[.slice (some ⟨g, 0, none⟩) d.X.length e1, .slice B2 d.P.length e2, .slice B3 d.H.length e3, .int .i64 0]) ?_ rfl ⟨_, rfl, ⟨_, _, _, rfl, ⟨_, _, _, rfl, ?_, ?_, ?_⟩⟩, ?_⟩
        · apply res_out (b := w.heap.size + 1) _ (by kernel_rfl)
          · rfl
          · repeat (first | with_reducible apply block_set | with_reducible exact HBZ.out)
          · simp only [List.setIfInBounds_toArray, List.set_cons_zero, List.set_cons_succ]
        case refine_5 =>
          refine HLR.out.bel.trans ?_
          (repeat (first | with_reducible refine bset ?_ _ (by omega) | with_reducible refine ball ?_ _ (by first | exact Nat.le_refl _ | (simp only [World.size_alloc, World.size_setCell]; omega)) | with_reducible exact Below.refl _ _ | with_reducible refine Below.drew ?_))
        all_goals
          refine Ow.base (base := w2.heap.size) ?_ (by omega)
          repeat (first | with_reducible refine ofar ?_ _ (by omega) | with_reducible exact HXO.out | with_reducible exact HPJ.out | with_reducible exact HHJ.out)

end Go.Proofs.Ytmkcfjopneaimaa
