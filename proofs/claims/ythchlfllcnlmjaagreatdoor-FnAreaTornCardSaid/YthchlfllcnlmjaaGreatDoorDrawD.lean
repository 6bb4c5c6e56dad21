/-
  The draw of a disk: l02Disk.
-/
import Derived.Test.YthchlfllcnlmjaaGreatDoorDrawAt
namespace Go.Proofs.YthchlfllcnlmjaaGreatDoor
open Go.ChangeShapes Go.WideShapes Go.ChangeAt Go.RowKit

theorem heap_alloc_drew (w : World) (o : Obj) : (w.alloc o).drew.heap[w.heap.size]? = some o := heap_alloc_new w o
/-- What stands behind the write: its answer in a box of its own. -/
def Wrote (w W : World) (S b : Nat) (cv : Value) (len : Nat) (s p : Value) (d : Dk) (y : Value) : Prop :=
  ∃ (yb : Nat) (o : Do) (B1 B2 : Option Addr) (e1 e2 : Nat), y = .pointer (some ⟨yb, 0, none⟩) ∧ b < yb ∧ (o.code = 0 → Right o.dk)
    ∧ W.heap[yb]? = some (.cells #[.slice B1 o.dk.S.length e1, .slice B2 o.dk.P.length e2, .string o.data, .int .i64 o.code] 68 (0, 0))
    ∧ DkOw W (w.heap.size + 1) (.agg #[.slice B1 o.dk.S.length e1, .slice B2 o.dk.P.length e2]) o.dk ∧ At w W S b cv len s p d

theorem wrote_alloc {w X : World} {S b : Nat} {cv : Value} {len : Nat} {s p : Value} {d : Dk} {o : Do} {B1 B2 : Option Addr} {e1 e2 base : Nat} (h : At w X S b cv len s p d) (hw : o.code = 0 → Right o.dk) (ho : DkOw X base (.agg #[.slice B1 o.dk.S.length e1, .slice B2 o.dk.P.length e2]) o.dk) (hb : w.heap.size + 1 ≤ base) :
    Wrote w (X.alloc (.cells #[.slice B1 o.dk.S.length e1, .slice B2 o.dk.P.length e2, .string o.data, .int .i64 o.code] 68)) S b cv len s p d (.pointer (some ⟨X.heap.size, 0, none⟩)) :=
  ⟨_, o, B1, B2, e1, e2, rfl, block_lt h.box, hw, heap_alloc_new _ _, (ho.base hb).alloc _, h.alloc _⟩
theorem wrote_set {w X : World} {S b yb : Nat} {cv : Value} {len : Nat} {s p : Value} {d : Dk} {o : Do} {B1 B2 : Option Addr} {e1 e2 base : Nat} (h : At w X S b cv len s p d) {x0 x1 x2 x3 : Value} (hy : X.heap[yb]? = some (.cells #[x0, x1, x2, x3] 68 (0, 0))) (hyb : b < yb) (hw : o.code = 0 → Right o.dk) (ho : DkOw X base (.agg #[.slice B1 o.dk.S.length e1, .slice B2 o.dk.P.length e2]) o.dk) (hb : w.heap.size + 1 ≤ base) :
    Wrote w ((((X.setCell ⟨yb, 0, none⟩ (.slice B1 o.dk.S.length e1)).setCell ⟨yb, 1, none⟩ (.slice B2 o.dk.P.length e2)).setCell ⟨yb, 2, none⟩ (.string o.data)).setCell ⟨yb, 3, none⟩ (.int .i64 o.code)) S b cv len s p d (.pointer (some ⟨yb, 0, none⟩)) :=
  have hq := h.other4 hy hyb (.slice B1 o.dk.S.length e1) (.slice B2 o.dk.P.length e2) (.string o.data) (.int .i64 o.code)
  ⟨_, o, B1, B2, e1, e2, rfl, hyb, hw, hq.2.1, hq.2.2 (ho.base hb), hq.1⟩

set_option maxRecDepth 100000 in
set_option maxHeartbeats 4000000 in
theorem draw_disk (S : Nat) (cv : Value) (len : Nat) (w : World) (hS : Src w S cv len) (hC : Code w S cv len) :
    Calls Tryz.prog 34 #[.pointer (some ⟨S, 0, none⟩)] w (SomeDisk w S cv len) := by
  have HS := Lib.hid hS; have HC := Lib.hid hC
  have hSl : S < w.heap.size := hS.lt
  clear hS hC
  go_enter Tryz.func34, Tryz.ntmps34
  go_wp2_with fail
  have hA0 : w.grownBy (w.alloc (.cells #[.slice none 0 0, .slice none 0 0] 26)) (some S) := World.grownBy_alloc _ _ _
  refine (draw_n S cv len 9 _ (HS.out.keep (heap_alloc_old _ _ hSl)) (HC.out.on hA0) (by omega) (by omega)).mono ?_
  rintro e w1 ⟨r, rfl, r0, r1, hg1, hs1⟩
  have HG1 := Lib.hid (grown_trans hA0 hg1)
  have HS1 := Lib.hid hs1
  have HR1 := Lib.hid (blk_by (heap_alloc_new w (.cells #[.slice none 0 0, .slice none 0 0] 26)) hg1 hSl)
  have hz1 := hg1.size
  simp only [World.size_alloc] at hz1
  clear hg1 hs1 hA0
  go_wp2_with fail
  refine (spec_disknew (1 + r) w1).mono ?_
  intro e w2 h2
  obtain ⟨A1, c1, A2, c2, rfl, ho2, hb2⟩ := h2.parts
  have hz2 := hb2.size
  have HA := Lib.hid (show ∀ (s p : Value), DkOw w2 w1.heap.size (.agg #[s, p]) (newDk (1 + r)) → At w (w2.alloc (.cells #[s, p] 26)) S w2.heap.size cv len s p (newDk (1 + r)) from fun s p ho => ⟨(HS1.out.below hb2).below ((Below.refl _ _).alloc (Nat.le_refl _) _), grown_trans (grown_trans HG1.out (grown_below hb2 _)) (World.grownBy_alloc _ _ _), hSl, by omega, alloc_blk (keep_blk hb2 HR1.out) _, heap_alloc_new _ _, (ho.base (by omega)).alloc _⟩)
  have HO2 := Lib.hid ho2
  have hR := newDk_right (1 + r) (by omega) (by omega)
  have HRt := Lib.hid hR
  clear h2 ho2 hb2 HG1 HS1 HR1 hR
  replace HA := Lib.hid (HA.out _ _ HO2.out)
  clear HO2
  generalize newDk (1 + r) = d at *
  go_wp2_with fail
  refine (draw_n S cv len 9 _ HA.out.src (HC.out.on HA.out.grown) (by omega) (by omega)).mono ?_
  rintro e w3 ⟨q, rfl, q0, q1, hg3, hs3⟩
  replace HA := Lib.hid (HA.out.by_ hg3 hs3)
  clear hg3 hs3 hz1 hz2 r0 r1
  obtain ⟨n, rfl⟩ := Int.eq_ofNat_of_zero_le q0
  go_wp2
  go_loopw [4] (fun i wr => ∃ (k : Nat) (d : Dk) (A1 A2 : Option Addr) (c1 c2 : Nat), i = .int .i64 (k : Int) ∧ k ≤ 8 ∧ Right d ∧ At w wr S w2.heap.size cv len (.slice A1 d.S.length c1) (.slice A2 d.P.length c2) d) (fun i _ => (intOf i).toNat)
  case atStart => exact ⟨n, d, A1, A2, c1, c2, rfl, by omega, HRt.out, HA.out⟩
  case round =>
    clear HA HRt HS q0 q1
    obtain ⟨k, d, A1, A2, c1, c2, rfl, hk, hR, hA⟩ := hrel
    have HA := Lib.hid hA; have HR := Lib.hid hR
    have h3 := hA.far
    obtain ⟨x0, x1⟩ := box2 hA.box
    clear hA hR
    by_cases hlt : 0 < k
    · have h4 := block_lt HA.out.box
      go_upto_region 5 with fail
      go_cut [5] from 12 to 32 (fun y wx => Wrote w wx S w2.heap.size cv len (.slice A1 d.S.length c1) (.slice A2 d.P.length c2) d y)
      case first =>
        have HD := Lib.hid HA.out
        clear HA
        go_region_with (first
          | (go_at_call 32; (with_reducible refine (draw_n S cv len _ _ HD.out.src (HC.out.on HD.out.grown) (by omega) (by omega)).mono ?_); rintro e wx ⟨r, rfl, r0, r1, hg, hs⟩; have HD0 := Lib.hid (HD.out.by_ hg hs); (first | (have HY := Lib.hid (blk_by HY.out hg (by omega)); obtain ⟨y0, y1, y2, y3⟩ := box4 HY.out; obtain ⟨f0, f1, f2, f3⟩ := box_frozen HY.out) | skip); clear HD; have HD := Lib.hid HD0.out; clear HD0; obtain ⟨x0, x1⟩ := box2 HD.out.box; have h4 := block_lt HD.out.box; clear hg hs)
          | (go_at_call 32; (with_reducible refine (draw_n S cv len _ _ HD.out.drew.src (HC.out.on HD.out.drew.grown) (by omega) (by omega)).mono ?_); rintro e wx ⟨r, rfl, r0, r1, hg, hs⟩; have HD0 := Lib.hid (HD.out.drew.by_ hg hs); (first | (have HY := Lib.hid (blk_by HY.out hg (by omega)); obtain ⟨y0, y1, y2, y3⟩ := box4 HY.out; obtain ⟨f0, f1, f2, f3⟩ := box_frozen HY.out) | skip); clear HD; have HD := Lib.hid HD0.out; clear HD0; obtain ⟨x0, x1⟩ := box2 HD.out.box; have h4 := block_lt HD.out.box; clear hg hs)
          | (go_at_call 32; (with_reducible refine (draw_n S cv len _ _ (HD.out.alloc _).src (HC.out.on (HD.out.alloc _).grown) (by omega) (by omega)).mono ?_); rintro e wx ⟨r, rfl, r0, r1, hg, hs⟩; have HD0 := Lib.hid ((HD.out.alloc _).by_ hg hs); (have HY := Lib.hid (blk_by (heap_alloc_new _ (.cells #[.slice none 0 0, .slice none 0 0, .string ⟨#[]⟩, .int .i64 0] 68)) hg (by omega)); obtain ⟨y0, y1, y2, y3⟩ := box4 HY.out; obtain ⟨f0, f1, f2, f3⟩ := box_frozen HY.out); clear HD; have HD := Lib.hid HD0.out; clear HD0; obtain ⟨x0, x1⟩ := box2 HD.out.box; have h4 := block_lt HD.out.box; clear hg hs)
          | (go_at_call 32; (with_reducible refine (draw_n S cv len _ _ (HD.out.alloc _).drew.src (HC.out.on (HD.out.alloc _).drew.grown) (by omega) (by omega)).mono ?_); rintro e wx ⟨r, rfl, r0, r1, hg, hs⟩; have HD0 := Lib.hid ((HD.out.alloc _).drew.by_ hg hs); (have HY := Lib.hid (blk_by (heap_alloc_drew _ (.cells #[.slice none 0 0, .slice none 0 0, .string ⟨#[]⟩, .int .i64 0] 68)) hg (by omega)); obtain ⟨y0, y1, y2, y3⟩ := box4 HY.out; obtain ⟨f0, f1, f2, f3⟩ := box_frozen HY.out); clear HD; have HD := Lib.hid HD0.out; clear HD0; obtain ⟨x0, x1⟩ := box2 HD.out.box; have h4 := block_lt HD.out.box; clear hg hs)
          | (go_at_call 31; (with_reducible refine (draw_bytes S cv len _ _ HD.out.src (HC.out.on HD.out.grown) (by omega)).mono ?_); rintro e wx ⟨l, rfl, hl, hg, hs⟩; have ht : (ByteArray.mk l.toArray).size ≤ 1048576 := (by rw [str_size]; omega); have HD0 := Lib.hid (HD.out.by_ hg hs); (first | (have HY := Lib.hid (blk_by HY.out hg (by omega)); obtain ⟨y0, y1, y2, y3⟩ := box4 HY.out; obtain ⟨f0, f1, f2, f3⟩ := box_frozen HY.out) | skip); clear HD; have HD := Lib.hid HD0.out; clear HD0; obtain ⟨x0, x1⟩ := box2 HD.out.box; have h4 := block_lt HD.out.box; clear hg hs)
          | (go_at_call 31; (with_reducible refine (draw_bytes S cv len _ _ (HD.out.alloc _).src (HC.out.on (HD.out.alloc _).grown) (by omega)).mono ?_); rintro e wx ⟨l, rfl, hl, hg, hs⟩; have ht : (ByteArray.mk l.toArray).size ≤ 1048576 := (by rw [str_size]; omega); have HD0 := Lib.hid ((HD.out.alloc _).by_ hg hs); (have HY := Lib.hid (blk_by (heap_alloc_new _ (.cells #[.slice none 0 0, .slice none 0 0, .string ⟨#[]⟩, .int .i64 0] 68)) hg (by omega)); obtain ⟨y0, y1, y2, y3⟩ := box4 HY.out; obtain ⟨f0, f1, f2, f3⟩ := box_frozen HY.out); clear HD; have HD := Lib.hid HD0.out; clear HD0; obtain ⟨x0, x1⟩ := box2 HD.out.box; have h4 := block_lt HD.out.box; clear hg hs)
          | (go_at_call 53; (with_reducible refine (spec_write _ d _ _ _ HD.out.own.at_ (right_small HR.out) ht).mono ?_); intro e wx h; obtain ⟨B1, e1, B2, e2, rfl, ho, hb⟩ := h.parts; have HO := Lib.hid ho; have HD0 := Lib.hid (HD.out.below hb); (first | (have HY := Lib.hid (keep_blk hb HY.out); obtain ⟨y0, y1, y2, y3⟩ := box4 HY.out; obtain ⟨f0, f1, f2, f3⟩ := box_frozen HY.out) | skip); clear HD; have HD := Lib.hid HD0.out; clear HD0; obtain ⟨x0, x1⟩ := box2 HD.out.box; have h4 := block_lt HD.out.box; clear h ho hb)
          | (go_at_call 53; (with_reducible refine (spec_write _ d _ _ _ (HD.out.alloc _).own.at_ (right_small HR.out) ht).mono ?_); intro e wx h; obtain ⟨B1, e1, B2, e2, rfl, ho, hb⟩ := h.parts; have HO := Lib.hid ho; have HD0 := Lib.hid ((HD.out.alloc _).below hb); (have HY := Lib.hid (keep_blk hb (heap_alloc_new _ (.cells #[.slice none 0 0, .slice none 0 0, .string ⟨#[]⟩, .int .i64 0] 68))); obtain ⟨y0, y1, y2, y3⟩ := box4 HY.out; obtain ⟨f0, f1, f2, f3⟩ := box_frozen HY.out); clear HD; have HD := Lib.hid HD0.out; clear HD0; obtain ⟨x0, x1⟩ := box2 HD.out.box; have h4 := block_lt HD.out.box; clear h ho hb))
        all_goals
          go_wp2_with fail
          go_meet
          first
            | (with_reducible exact wrote_alloc HD.out (write_good d _ _) HO.out (by first | omega | (simp only [World.size_alloc]; omega)))
            | (with_reducible exact wrote_set HD.out HY.out (by omega) (write_good d _ _) HO.out (by first | omega | (simp only [World.size_alloc]; omega)))
      case rest =>
        obtain ⟨yb, ⟨dk, dt, cd⟩, B1, B2, e1, e2, rfl, hyb, hgo, hy, hoo, hA⟩ := hcut
        simp only at hgo hy hoo
        have HA1 := Lib.hid hA; have HY := Lib.hid hy; have HO := Lib.hid hoo; have HGO := Lib.hid hgo
        clear hA hy hoo hgo x0 x1 HA
        go_wp2_with fail
        refine (draw_one S cv len 5 _ HA1.out.src (HC.out.on HA1.out.grown) (by omega)).mono ?_
        rintro e wf ⟨b5, rfl, hg, hs⟩
        replace HY := Lib.hid (blk_by HY.out hg (by omega))
        replace HO := Lib.hid (HO.out.by_ hg (by omega))
        replace HA1 := Lib.hid (HA1.out.by_ hg hs)
        clear hg hs
        obtain ⟨x0, x1⟩ := box2 HA1.out.box
        obtain ⟨g0, g1, _, _⟩ := box_frozen HA1.out.box
        cases b5
        · obtain ⟨y0, y1, y2, y3⟩ := box4 HY.out
          by_cases hc : cd = 0
          · subst hc
            go_wp2
            go_roundw
            case rel => exact ⟨k - 1, dk, B1, B2, e1, e2, by go_num, by omega, HGO.out trivial, HA1.out.put HO.out⟩
            case measure => simp [intOf]; omega
          · go_wp2
            go_roundw
            case rel => exact ⟨k - 1, d, A1, A2, c1, c2, by go_num, by omega, HR.out, HA1.out⟩
            case measure => simp [intOf]; omega
        · go_wp2_with fail
          refine (spec_flush _ d _ HA1.out.own.at_ (right_small HR.out)).mono ?_
          intro e wg h
          obtain ⟨D1, q1, D2, q2, rfl, ho, hb⟩ := h.parts
          have HGF := Lib.hid (flush_good d)
          have hzb := hb.size
          have HOF := Lib.hid (ho.base (base' := w.heap.size + 1) (by have := HA1.out.grown.size; have := block_lt HA1.out.box; omega))
          replace HY := Lib.hid (keep_blk hb HY.out)
          replace HA1 := Lib.hid (HA1.out.below hb)
          clear h ho hb x0 x1 g0 g1 HO hzb
          obtain ⟨x0, x1⟩ := box2 HA1.out.box
          obtain ⟨g0, g1, _, _⟩ := box_frozen HA1.out.box
          obtain ⟨y0, y1, y2, y3⟩ := box4 HY.out
          obtain ⟨f0, f1, f2, f3⟩ := box_frozen HY.out
          have HQ := Lib.hid (HA1.out.other4 HY.out hyb (.slice D1 (flushDo d).dk.S.length q1) (.slice D2 (flushDo d).dk.P.length q2) (.string (flushDo d).data) (.int .i64 (flushDo d).code))
          generalize flushDo d = o2 at *
          obtain ⟨dk2, dt2, cd2⟩ := o2
          simp only at HGF HOF HQ
          by_cases hc : cd2 = 0
          · subst hc
            go_wp2
            go_roundw
            case rel => exact ⟨k - 1, dk2, D1, D2, q1, q2, by go_num, by omega, HGF.out trivial, HQ.out.1.put (HQ.out.2.2 HOF.out)⟩
            case measure => simp [intOf]; omega
          · go_wp2
            go_roundw
            case rel => exact ⟨k - 1, d, A1, A2, c1, c2, by go_num, by omega, HR.out, HQ.out.1⟩
            case measure => simp [intOf]; omega
    · have hk0 : k = 0 := by omega
      subst hk0
      go_wp2_with fail
      refine (draw_one S cv len 15 _ HA.out.src (HC.out.on HA.out.grown) (by omega)).mono ?_
      rintro e wf ⟨b5, rfl, hg, hs⟩
      replace HA := Lib.hid (HA.out.by_ hg hs)
      clear hg hs x0 x1
      obtain ⟨x0, x1⟩ := box2 HA.out.box
      obtain ⟨g0, g1, _, _⟩ := box_frozen HA.out.box
      obtain ⟨z0, z1⟩ := box2 HA.out.res
      obtain ⟨k0, k1, _, _⟩ := box_frozen HA.out.res
      cases b5
      · go_wp2
        refine bodyPost_ret (v := .agg #[.slice A1 d.S.length c1, .slice A2 d.P.length c2]) (by simp [results, Tryz.results34, go_sem, z0, z1]) rfl ?_
        exact HA.out.done (right_drawn HR.out)
      · go_wp2_with fail
        refine (draw_n S cv len 4 _ HA.out.src (HC.out.on HA.out.grown) (by omega) (by omega)).mono ?_
        rintro e wg ⟨q, rfl, q0, q1, hg, hs⟩
        replace HA := Lib.hid (HA.out.by_ hg hs)
        clear hg hs x0 x1 g0 g1 z0 z1 k0 k1
        obtain ⟨x0, x1⟩ := box2 HA.out.box
        obtain ⟨g0, g1, _, _⟩ := box_frozen HA.out.box
        obtain ⟨z0, z1⟩ := box2 HA.out.res
        obtain ⟨k0, k1, _, _⟩ := box_frozen HA.out.res
        have hdr := right_drawn HR.out
        have HDR := Lib.hid hdr
        clear hdr
        rcases (by omega : q = 0 ∨ q = 1 ∨ q = 2 ∨ q = 3) with rfl | rfl | rfl | rfl
        · go_wp2
          refine bodyPost_ret (v := .agg #[.slice none 0 0, .slice A2 d.P.length c2]) (by simp [results, Tryz.results34, go_sem, z0, z1]) rfl ?_
          exact HA.out.nilS.done' rfl rfl ⟨by simp, by simp, HDR.out.2.2.1, HDR.out.2.2.2⟩
        · have HP := Lib.hid HA.out.ownP
          have hbz := block_lt HA.out.box
          have hpl : d.P.length ≤ 200 := HR.out.2.2.1
          go_wp2_with (at_builtin; refine list_append_sl pendType _ rfl (.tmp 56) (.tmp 61) rfl (w.heap.size + 1) (.slice A2 d.P.length c2) d.P.length _ rfl (World.ownsRow.alloc HP.out _) _ encP _ [((d.S.length : Int), (⟨#[]⟩ : ByteArray))] rfl (sl_single (heap_alloc_new wg _) 2 encP ((d.S.length : Int), (⟨#[]⟩ : ByteArray)) rfl) encP_len encP_one (by simp; unfold maxLen; omega) (by simp; omega) (by simp; omega) ?_; intro v3 w3 g3; obtain ⟨A', c', rfl⟩ := g3.form; have GP := Lib.hid ((HA.out.alloc _).grewP ((d.S.length : Int), (⟨#[]⟩ : ByteArray)) rfl (by rw [List.flatMap_append]) g3); obtain ⟨x0, x1⟩ := box2 GP.out.2.1; obtain ⟨g0, g1, _, _⟩ := box_frozen GP.out.2.1; obtain ⟨z0, z1⟩ := box2 GP.out.2.2; obtain ⟨k0, k1, _, _⟩ := box_frozen GP.out.2.2; clear g3)
          refine bodyPost_ret (v := .agg #[.slice A1 d.S.length c1, .slice A' (d.P.length + 1) c']) (by simp [results, Tryz.results34, go_sem, z0, z1]) rfl ?_
          exact GP.out.1.done' rfl (by simp) (drawn_more HDR.out (by omega) _ (by simp only; omega) (by have := HR.out.2.1; simp only; omega) (Nat.zero_le 65))
        · have HD := Lib.hid HA.out
          have hsl : 0 < d.S.length := HR.out.1
          obtain ⟨g, rfl, hg1, hg2⟩ := own_form HD.out.ownS hsl
          clear x0 x1 g0 g1 z0 z1 k0 k1 HA
          obtain ⟨x0, x1⟩ := box2 HD.out.box
          obtain ⟨g0, g1, _, _⟩ := box_frozen HD.out.box
          go_upto_region 19 with fail
          go_region_with (go_at_call 32; (with_reducible refine (draw_n S cv len _ _ HD.out.drew.src (HC.out.on HD.out.drew.grown) (by omega) (by omega)).mono ?_); rintro e wh ⟨r, rfl, r0, r1, hg, hs⟩; have HE := Lib.hid (HD.out.drew.by_ hg hs); clear hg hs; obtain ⟨rn, rfl⟩ := Int.eq_ofNat_of_zero_le r0; obtain ⟨x0, x1⟩ := box2 HE.out.box; obtain ⟨g0, g1, _, _⟩ := box_frozen HE.out.box; obtain ⟨z0, z1⟩ := box2 HE.out.res; obtain ⟨k0, k1, _, _⟩ := box_frozen HE.out.res; have hbz := block_lt HE.out.box; have hg3 := (World.ownsRow.lt HE.out.ownS g rfl).2; have hwz := block_lt HE.out.res; have hgb : ¬ w2.heap.size = g := HE.out.ownS.type HE.out.box (by decide) g rfl; have hgb' : ¬ g = w2.heap.size := (fun e => hgb e.symm); have hgw : ¬ w.heap.size = g := (by omega); have hgw' : ¬ g = w.heap.size := (by omega); obtain ⟨sv, hsv, hsf⟩ := own_cell HE.out.ownS 0 (by omega); have hwr : IntKind.i64.wrap (64 + (rn : Int)) = 64 + (rn : Int) := IntWalk.i64_in _ (by omega); obtain ⟨M, hM, hmk⟩ := make_noughts (64 + rn) (by omega) (64 + (rn : Int)) (by omega); have hcv := block_string (P := Tryz.prog) (heap_alloc_new wh (.cells M 5)) 22 5 9 Tryz.underlying22 Tryz.underlying5 Tryz.underlying9 (List.replicate (64 + rn) 0) (64 + rn) (64 + rn) (by simp) hM; have HL := Lib.hid (show (List.replicate (64 + rn) (0 : UInt8)).length = 64 + rn from List.length_replicate); generalize List.replicate (64 + rn) (0 : UInt8) = l at hcv HL; clear hM)
          all_goals
            go_wp2
            refine bodyPost_ret (v := .agg #[.slice (some ⟨g, 0, none⟩) d.S.length c1, .slice A2 d.P.length c2]) (by simp [results, Tryz.results34, go_sem, z0, z1, hwz]) rfl ?_
            refine SomeDisk.alloc ?_ _
            exact (HE.out.setS rfl hsl _).done' (by simp) rfl (drawn_set HDR.out _ (by rw [str_size, HL.out]; omega))
        · go_wp2
          go_loopw [] (fun wr => ∃ (d : Dk) (A1 A2 : Option Addr) (c1 c2 : Nat), Drawn d ∧ d.P.length ≤ 201 ∧ At w wr S w2.heap.size cv len (.slice A1 d.S.length c1) (.slice A2 d.P.length c2) d) (fun wr => 202 - boxLen wr w2.heap.size)
          case atStart => exact ⟨d, A1, A2, c1, c2, HDR.out, by have := HR.out.2.2.1; omega, HA.out⟩
          case round =>
            clear HA HDR HR x0 x1 g0 g1 z0 z1 k0 k1
            obtain ⟨d, A1, A2, c1, c2, hd, hl, hA⟩ := hrel
            have HD := Lib.hid hA; have HDR := Lib.hid hd
            have hm := boxLen_at hA
            have HM := Lib.hid hm
            clear hA hd hm
            obtain ⟨x0, x1⟩ := box2 HD.out.box
            obtain ⟨g0, g1, _, _⟩ := box_frozen HD.out.box
            go_upto_region 12 with fail
            go_region_with (go_at_call 32; (with_reducible refine (draw_n S cv len _ _ HD.out.drew.src (HC.out.on HD.out.drew.grown) (by omega) (by omega)).mono ?_); rintro e wh ⟨r, rfl, r0, r1, hg, hs⟩; have HA := Lib.hid (HD.out.drew.by_ hg hs); clear hg hs; obtain ⟨x0, x1⟩ := box2 HA.out.box; obtain ⟨g0, g1, _, _⟩ := box_frozen HA.out.box; obtain ⟨z0, z1⟩ := box2 HA.out.res; obtain ⟨k0, k1, _, _⟩ := box_frozen HA.out.res; have hbz := block_lt HA.out.box; have hwr : IntKind.i64.wrap (199 + r) = 199 + r := IntWalk.i64_in _ (by omega))
            all_goals
              by_cases hlt : (d.P.length : Int) < 199 + r
              · have HP := Lib.hid HA.out.ownP
                go_wp2_with (at_builtin; refine list_append_sl pendType _ rfl (.tmp 45) (.tmp 47) rfl (w.heap.size + 1) (.slice A2 d.P.length c2) d.P.length _ rfl (World.ownsRow.alloc HP.out _) _ encP _ [((0 : Int), (⟨#[]⟩ : ByteArray))] rfl (sl_single (heap_alloc_new wh _) 2 encP ((0 : Int), (⟨#[]⟩ : ByteArray)) rfl) encP_len encP_one (by simp; unfold maxLen; omega) (by simp; omega) (by simp; omega) ?_; intro v3 w3 g3; obtain ⟨A', c', rfl⟩ := g3.form; have GP := Lib.hid ((HA.out.alloc _).grewP ((0 : Int), (⟨#[]⟩ : ByteArray)) rfl (by rw [List.flatMap_append]) g3); obtain ⟨x0, x1⟩ := box2 GP.out.2.1; obtain ⟨g0, g1, _, _⟩ := box_frozen GP.out.2.1; obtain ⟨z0, z1⟩ := box2 GP.out.2.2; obtain ⟨k0, k1, _, _⟩ := box_frozen GP.out.2.2; clear g3)
                go_roundw
                case rel => exact ⟨⟨d.S, d.P ++ [((0 : Int), (⟨#[]⟩ : ByteArray))]⟩, A1, A', c1, c', drawn_more HDR.out (by omega) _ (by decide) (by decide) (by decide), by simp only [List.length_append, List.length_singleton]; omega, by rw [List.length_append]; exact GP.out.1⟩
                case measure =>
                  have e : boxLen (w3.setCell ⟨w2.heap.size, 1, none⟩ (.slice A' (d.P.length + 1) c')) w2.heap.size = d.P.length + 1 := boxLen_at GP.out.1
                  rw [e, HM.out]
                  omega
              · go_wp2
                refine bodyPost_ret (v := .agg #[.slice A1 d.S.length c1, .slice A2 d.P.length c2]) (by simp [results, Tryz.results34, go_sem, z0, z1]) rfl ?_
                exact HA.out.done HDR.out

end Go.Proofs.YthchlfllcnlmjaaGreatDoor
