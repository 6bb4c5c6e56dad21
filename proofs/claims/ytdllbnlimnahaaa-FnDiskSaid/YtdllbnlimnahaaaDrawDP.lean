/-
  The draws of a disk with a place, and of one with a place and a text: DrawDiskRead, DrawDiskWrite.
-/
import Derived.Test.YtdllbnlimnahaaaDrawDR
namespace Go.Proofs.Ytdllbnlimnahaaa
open Go.ChangeShapes Go.WideShapes Go.ChangeAt Go.RowKit

/-- Where a draw stands, behind its disk: the source in the block behind the result's, the disk in the box b. -/
structure Dr (w W : World) (cv : Value) (len b : Nat) (s p : Value) (d : Dk) : Prop where
  bel : Below w.heap.size w W
  src : Src W (w.heap.size + 1) cv len
  code : Code W (w.heap.size + 1) cv len
  res : W.heap[w.heap.size]? = some (.cells #[.slice none 0 0, .slice none 0 0] 26 (0, 0))
  box : W.heap[b]? = some (.cells #[s, p] 26 (0, 0))
  far : w.heap.size + 1 < b
  own : DkOw W (w.heap.size + 2) (.agg #[s, p]) d

theorem Dr.by_ {w W W' : World} {cv : Value} {len b : Nat} {s p : Value} {d : Dk} (h : Dr w W cv len b s p d) (hg : W.grownBy W' (some (w.heap.size + 1))) (hs : Src W' (w.heap.size + 1) cv len) : Dr w W' cv len b s p d :=
  ⟨h.bel.grown hg h.bel.size (fun k hk => by cases hk; omega), hs, h.code.on hg, blk_ne h.res hg (by omega), blk_ne h.box hg (by have := h.far; omega), h.far, h.own.by_ hg (by omega)⟩
theorem Dr.alloc {w W : World} {cv : Value} {len b : Nat} {s p : Value} {d : Dk} (h : Dr w W cv len b s p d) (o : Obj) : Dr w (W.alloc o) cv len b s p d :=
  ⟨h.bel.alloc h.bel.size _, h.src.alloc _, h.code.on (World.grownBy_alloc _ _ _), alloc_blk h.res _, alloc_blk h.box _, h.far, h.own.alloc _⟩
theorem Dr.drew {w W : World} {cv : Value} {len b : Nat} {s p : Value} {d : Dk} (h : Dr w W cv len b s p d) : Dr w W.drew cv len b s p d := h.by_ (grownBy_drew (World.grownBy.refl _ _)) h.src.drew
/-- Behind the disk's draw, in its box. -/
theorem dr_made {w w1 w2 : World} {cv : Value} {len : Nat} {A1 A2 : Option Addr} {c1 c2 : Nat} {d : Dk} (hb : Below (w.alloc (.cells #[.slice none 0 0, .slice none 0 0] 26)).heap.size (w.alloc (.cells #[.slice none 0 0, .slice none 0 0] 26)) w1)
    (hS : Src w1 (w.heap.size + 1) cv len) (hC : Code w1 (w.heap.size + 1) cv len) (ho : DkOw w2 w1.heap.size (.agg #[.slice A1 d.S.length c1, .slice A2 d.P.length c2]) d) (hg : w1.grownBy w2 (some (w.heap.size + 1))) (hS2 : Src w2 (w.heap.size + 1) cv len) :
    Dr w (w2.alloc (.cells #[.slice A1 d.S.length c1, .slice A2 d.P.length c2] 26)) cv len w2.heap.size (.slice A1 d.S.length c1) (.slice A2 d.P.length c2) d := by
  have hz0 := hb.size
  simp only [World.size_alloc] at hz0
  have hz1 := hg.size
  have hsl := hS.lt
  have hB1 : Below w.heap.size w w1 := ((Below.refl w.heap.size w).alloc (Nat.le_refl _) (.cells #[.slice none 0 0, .slice none 0 0] 26)).trans (hb.mono (by simp only [World.size_alloc]; omega))
  have hB2 : Below w.heap.size w w2 := hB1.grown hg hB1.size (fun k hk => by cases hk; omega)
  exact ⟨hB2.alloc hB2.size _, hS2.alloc _, (hC.on hg).on (World.grownBy_alloc _ _ _), alloc_blk (blk_ne (keep_blk hb (heap_alloc_new w _)) hg (by omega)) _, heap_alloc_new _ _, by omega, (ho.alloc _).base (by omega)⟩
/-- The result's box is written. -/
theorem Dr.done {w W : World} {cv : Value} {len b : Nat} {s p : Value} {d : Dk} (h : Dr w W cv len b s p d) (y0 y1 : Value) : DkOw ((W.setCell ⟨w.heap.size, 0, none⟩ y0).setCell ⟨w.heap.size, 1, none⟩ y1) w.heap.size (.agg #[s, p]) d ∧ Below w.heap.size w ((W.setCell ⟨w.heap.size, 0, none⟩ y0).setCell ⟨w.heap.size, 1, none⟩ y1) :=
  ⟨((h.own.far (by simp only; omega) _).far (by simp only; omega) _).base (by omega), Below.setCell (Below.setCell h.bel (by simp only; omega) _) (by simp only; omega) _⟩
/-- The same, where another block was made. -/
theorem Dr.done_made {w W : World} {cv : Value} {len b : Nat} {s p : Value} {d : Dk} (h : Dr w W cv len b s p d) (o : Obj) (y0 y1 : Value) : DkOw (((W.setCell ⟨w.heap.size, 0, none⟩ y0).setCell ⟨w.heap.size, 1, none⟩ y1).alloc o) w.heap.size (.agg #[s, p]) d ∧ Below w.heap.size w (((W.setCell ⟨w.heap.size, 0, none⟩ y0).setCell ⟨w.heap.size, 1, none⟩ y1).alloc o) :=
  ⟨(h.done y0 y1).1.alloc _, (h.done y0 y1).2.alloc (h.done y0 y1).2.size _⟩

theorem made_behind (W : World) (p q : Addr) (u v : Value) (M : Array Value) : (((W.setCell p u).setCell q v).alloc (.cells M 5)).heap[W.heap.size]? = some (.cells M 5 (0, 0)) := by
  have h := heap_alloc_new ((W.setCell p u).setCell q v) (.cells M 5)
  simpa only [World.size_setCell] using h
theorem str_le {l : List UInt8} (h : l.length ≤ 65) : (ByteArray.mk l.toArray).size ≤ 65 := by rw [str_size]; exact h
/-- A drawn disk and a place. -/
def DiskPlace (w : World) (e : Ending) (w' : World) : Prop :=
  ∃ A1 c1 A2 c2 d n, e = .returned (.tuple #[.agg #[.slice A1 d.S.length c1, .slice A2 d.P.length c2], .int .i64 n]) ∧ Drawn d
    ∧ -9223372036854775808 ≤ n ∧ n ≤ 9223372036854775807 ∧ DkOw w' w.heap.size (.agg #[.slice A1 d.S.length c1, .slice A2 d.P.length c2]) d ∧ Below w.heap.size w w'
/-- A drawn disk, a place, and a text. -/
def DiskText (w : World) (e : Ending) (w' : World) : Prop :=
  ∃ A1 c1 A2 c2 d n t, e = .returned (.tuple #[.agg #[.slice A1 d.S.length c1, .slice A2 d.P.length c2], .int .i64 n, .string t]) ∧ Drawn d
    ∧ 0 ≤ n ∧ n ≤ 8 ∧ t.size ≤ 65 ∧ DkOw w' w.heap.size (.agg #[.slice A1 d.S.length c1, .slice A2 d.P.length c2]) d ∧ Below w.heap.size w w'

theorem text_a {w W : World} {cv : Value} {len b : Nat} {A1 A2 : Option Addr} {c1 c2 : Nat} {d : Dk} (h : Dr w W cv len b (.slice A1 d.S.length c1) (.slice A2 d.P.length c2) d) (hd : Drawn d) {n : Int} (h0 : 0 ≤ n ∧ n ≤ 8) {l : List UInt8} (hl : l.length ≤ 65) (o : Obj) (y0 y1 : Value) :
    DiskText w (.returned (.tuple #[.agg #[.slice A1 d.S.length c1, .slice A2 d.P.length c2], .int .i64 n, .string ⟨l.toArray⟩])) (((W.setCell ⟨w.heap.size, 0, none⟩ y0).setCell ⟨w.heap.size, 1, none⟩ y1).alloc o) :=
  ⟨A1, c1, A2, c2, d, n, _, rfl, hd, h0.1, h0.2, str_le hl, h.done_made _ _ _⟩
theorem text_b {w W : World} {cv : Value} {len b : Nat} {A1 A2 : Option Addr} {c1 c2 : Nat} {d : Dk} (h : Dr w W cv len b (.slice A1 d.S.length c1) (.slice A2 d.P.length c2) d) (hd : Drawn d) {n : Int} (h0 : 0 ≤ n ∧ n ≤ 8) {l : List UInt8} (hl : l.length ≤ 65) (o : Obj) (y0 y1 : Value) :
    DiskText w (.returned (.tuple #[.agg #[.slice A1 d.S.length c1, .slice A2 d.P.length c2], .int .i64 n, .string ⟨l.toArray⟩])) (((W.alloc o).setCell ⟨w.heap.size, 0, none⟩ y0).setCell ⟨w.heap.size, 1, none⟩ y1) :=
  ⟨A1, c1, A2, c2, d, n, _, rfl, hd, h0.1, h0.2, str_le hl, (h.alloc o).done _ _⟩

set_option maxRecDepth 100000 in
set_option maxHeartbeats 2000000 in
theorem draw_diskread (cv : Value) (len : Nat) (w : World) (hC : Code w w.heap.size cv len) :
    Calls Try.prog 11 #[cv] w (DiskPlace w) := by
  have hA0 : w.grownBy (w.alloc (.cells #[.slice none 0 0, .slice none 0 0] 26)) (some w.heap.size) := World.grownBy_alloc _ _ _
  have HC := Lib.hid ((hC.on hA0).more (B' := (w.alloc (.cells #[.slice none 0 0, .slice none 0 0] 26)).heap.size) (by simp only [World.size_alloc]; omega))
  clear hC hA0
  go_enter Try.func11, Try.ntmps11
  go_wp2_with fail
  refine (draw_source cv len _ HC.out).mono ?_
  rintro e w1 ⟨rfl, hb1, hS1, hC1⟩
  simp only [World.size_alloc] at hS1 hC1
  have HM := Lib.hid (fun w2 A1 A2 c1 c2 d ho hg hS2 => dr_made (w2 := w2) (A1 := A1) (A2 := A2) (c1 := c1) (c2 := c2) (d := d) hb1 hS1 hC1 ho hg hS2)
  have HS1 := Lib.hid hS1; have HC1 := Lib.hid hC1; clear hb1 hS1 hC1 HC
  go_wp2_with fail
  refine (draw_disk _ cv len w1 HS1.out HC1.out).mono ?_
  rintro e w2 ⟨A1, c1, A2, c2, d, rfl, ho, hd, hg2, hS2⟩
  have HD := Lib.hid (HM.out w2 A1 A2 c1 c2 d ho hg2 hS2)
  have HR := Lib.hid hd
  clear hg2 hS2 ho hd HM HS1 HC1
  go_wp2_with fail
  refine (draw_one _ cv len 10 _ HD.out.src HD.out.code (by omega)).mono ?_
  rintro e w5 ⟨b, rfl, hg5, hS5⟩
  have HE := Lib.hid (HD.out.by_ hg5 hS5)
  clear hg5 hS5 HD
  obtain ⟨x0, x1⟩ := box2 HE.out.box
  have hfar := HE.out.far
  cases b
  all_goals
    go_wp2
    go_region_with (first
      | (go_at_call 30; (with_reducible refine (draw_n _ cv len 9 _ HE.out.drew.src HE.out.drew.code (by omega) (by omega)).mono ?_); rintro e w3 ⟨r, rfl, r0, r1', hg3, hS3⟩; obtain ⟨r1, r2⟩ : -9223372036854775808 ≤ r ∧ r ≤ 9223372036854775807 := ⟨by omega, by omega⟩; have HF := Lib.hid (HE.out.drew.by_ hg3 hS3); obtain ⟨x0, x1⟩ := box2 HF.out.box; obtain ⟨z0, z1⟩ := box2 HF.out.res; obtain ⟨k0, k1, _, _⟩ := box_frozen HF.out.res)
      | (go_at_call 41; (with_reducible refine (draw_edge _ cv len _ HE.out.drew.src HE.out.drew.code).mono ?_); rintro e w3 ⟨r, rfl, r1, r2, hg3, hS3⟩; have HF := Lib.hid (HE.out.drew.by_ hg3 hS3); obtain ⟨x0, x1⟩ := box2 HF.out.box; obtain ⟨z0, z1⟩ := box2 HF.out.res; obtain ⟨k0, k1, _, _⟩ := box_frozen HF.out.res))
    all_goals
      go_wp2
      refine bodyPost_ret (v := .tuple #[.agg #[.slice A1 d.S.length c1, .slice A2 d.P.length c2], .int .i64 r]) (by simp [results, Try.results11, go_sem, z0, z1]) rfl ?_
      exact ⟨A1, c1, A2, c2, d, r, rfl, HR.out, r1, r2, HF.out.done _ _⟩

set_option maxRecDepth 100000 in
set_option maxHeartbeats 4000000 in
theorem draw_diskwrite (cv : Value) (len : Nat) (w : World) (hC : Code w w.heap.size cv len) :
    Calls Try.prog 5 #[cv] w (DiskText w) := by
  have hA0 : w.grownBy (w.alloc (.cells #[.slice none 0 0, .slice none 0 0] 26)) (some w.heap.size) := World.grownBy_alloc _ _ _
  have HC := Lib.hid ((hC.on hA0).more (B' := (w.alloc (.cells #[.slice none 0 0, .slice none 0 0] 26)).heap.size) (by simp only [World.size_alloc]; omega))
  clear hC hA0
  go_enter Try.func5, Try.ntmps5
  go_wp2_with fail
  refine (draw_source cv len _ HC.out).mono ?_
  rintro e w1 ⟨rfl, hb1, hS1, hC1⟩
  simp only [World.size_alloc] at hS1 hC1
  have HM := Lib.hid (fun w2 A1 A2 c1 c2 d ho hg hS2 => dr_made (w2 := w2) (A1 := A1) (A2 := A2) (c1 := c1) (c2 := c2) (d := d) hb1 hS1 hC1 ho hg hS2)
  have HS1 := Lib.hid hS1; have HC1 := Lib.hid hC1; clear hb1 hS1 hC1 HC
  go_wp2_with fail
  refine (draw_disk _ cv len w1 HS1.out HC1.out).mono ?_
  rintro e w2 ⟨A1, c1, A2, c2, d, rfl, ho, hd, hg2, hS2⟩
  have HD := Lib.hid (HM.out w2 A1 A2 c1 c2 d ho hg2 hS2)
  have HR := Lib.hid hd
  clear hg2 hS2 ho hd HM HS1 HC1
  go_wp2_with fail
  refine (draw_n _ cv len 9 _ HD.out.src HD.out.code (by omega) (by omega)).mono ?_
  rintro e w4 ⟨at_, rfl, a0, a1, hg4, hS4⟩
  have HA := Lib.hid (show 0 ≤ at_ ∧ at_ ≤ 8 from ⟨a0, by omega⟩)
  have HE4 := Lib.hid (HD.out.by_ hg4 hS4)
  clear hg4 hS4 HD a0 a1
  go_wp2_with fail
  refine (draw_one _ cv len 10 _ HE4.out.src HE4.out.code (by omega)).mono ?_
  rintro e w5 ⟨b, rfl, hg5, hS5⟩
  have HE := Lib.hid (HE4.out.by_ hg5 hS5)
  clear hg5 hS5 HE4
  obtain ⟨x0, x1⟩ := box2 HE.out.box
  have hfar := HE.out.far
  have hbz := block_lt HE.out.box
  cases b
  · go_wp2
    go_region_with (first
      | (go_at_call 30; (with_reducible refine (draw_n _ cv len 5 _ HE.out.drew.src HE.out.drew.code (by omega) (by omega)).mono ?_); rintro e w3 ⟨r, rfl, r0, r1, hg3, hS3⟩; have HF := Lib.hid (HE.out.drew.by_ hg3 hS3); clear hg3 hS3; obtain ⟨x0, x1⟩ := box2 HF.out.box; have hbz := block_lt HF.out.box)
      | (go_at_call 32; (with_reducible refine (draw_bytes _ cv len _ _ HF.out.src HF.out.code (by omega)).mono ?_); rintro e w6 ⟨l, rfl, hl, hg6, hS6⟩; have HT := Lib.hid (show (ByteArray.mk l.toArray).size ≤ 65 by rw [str_size]; omega); have HG := Lib.hid (HF.out.by_ hg6 hS6); clear hg6 hS6 hl; obtain ⟨x0, x1⟩ := box2 HG.out.box; obtain ⟨z0, z1⟩ := box2 HG.out.res; obtain ⟨k0, k1, _, _⟩ := box_frozen HG.out.res; have hbz := block_lt HG.out.box))
    all_goals
      go_wp2
      refine bodyPost_ret (v := .tuple #[.agg #[.slice A1 d.S.length c1, .slice A2 d.P.length c2], .int .i64 at_, .string ⟨l.toArray⟩]) (by simp [results, Try.results5, go_sem, z0, z1]) rfl ?_
      exact ⟨A1, c1, A2, c2, d, at_, _, rfl, HR.out, HA.out.1, HA.out.2, HT.out, HG.out.done _ _⟩
  · go_wp2
    go_region_with (go_at_call 30; (with_reducible refine (draw_n _ cv len 2 _ HE.out.drew.src HE.out.drew.code (by omega) (by omega)).mono ?_); rintro e wh ⟨r, rfl, r0, r1, hg3, hS3⟩; have HF := Lib.hid (HE.out.drew.by_ hg3 hS3); clear hg3 hS3; obtain ⟨rn, rfl⟩ := Int.eq_ofNat_of_zero_le r0; obtain ⟨x0, x1⟩ := box2 HF.out.box; obtain ⟨z0, z1⟩ := box2 HF.out.res; obtain ⟨k0, k1, _, _⟩ := box_frozen HF.out.res; have hbz := block_lt HF.out.box; have hwz := block_lt HF.out.res; have hwr : IntKind.i64.wrap (64 + (rn : Int)) = 64 + (rn : Int) := IntWalk.i64_in _ (by omega); obtain ⟨M, hM, hmk⟩ := make_noughts (64 + rn) (by omega) (64 + (rn : Int)) (by omega); have hm0 := heap_alloc_new wh (.cells M 5); have hm1 : (((wh.setCell ⟨w.heap.size, 0, none⟩ (.slice A1 d.S.length c1)).setCell ⟨w.heap.size, 1, none⟩ (.slice A2 d.P.length c2)).alloc (.cells M 5)).heap[wh.heap.size]? = some (.cells M 5 (0, 0)) := (made_behind wh _ _ _ _ M); have hm2 : (((wh.alloc (.cells M 5)).setCell ⟨w.heap.size, 0, none⟩ (.slice A1 d.S.length c1)).setCell ⟨w.heap.size, 1, none⟩ (.slice A2 d.P.length c2)).heap[wh.heap.size]? = some (.cells M 5 (0, 0)) := (by rw [Below.heap_setCell _ _ _ _ (by simp only; omega), Below.heap_setCell _ _ _ _ (by simp only; omega)]; exact hm0); have hcv0 := block_string (P := Try.prog) hm0 22 5 9 Try.underlying22 Try.underlying5 Try.underlying9 (List.replicate (64 + rn) 0) (64 + rn) (64 + rn) (by simp) hM; have hcv1 := block_string (P := Try.prog) hm1 22 5 9 Try.underlying22 Try.underlying5 Try.underlying9 (List.replicate (64 + rn) 0) (64 + rn) (64 + rn) (by simp) hM; have hcv2 := block_string (P := Try.prog) hm2 22 5 9 Try.underlying22 Try.underlying5 Try.underlying9 (List.replicate (64 + rn) 0) (64 + rn) (64 + rn) (by simp) hM; have HL := Lib.hid (show (List.replicate (64 + rn) (0 : UInt8)).length ≤ 65 from (by rw [List.length_replicate]; omega)); generalize List.replicate (64 + rn) (0 : UInt8) = l at hcv0 hcv1 hcv2 HL; clear hM hm0 hm1 hm2)
    all_goals
      go_wp2
      refine bodyPost_ret (v := .tuple #[.agg #[.slice A1 d.S.length c1, .slice A2 d.P.length c2], .int .i64 at_, .string ⟨l.toArray⟩]) (by simp [results, Try.results5, go_sem, z0, z1, hwz]) rfl ?_
      first
        | (with_reducible exact text_a HF.out HR.out HA.out HL.out _ _ _)
        | (with_reducible exact text_b HF.out HR.out HA.out HL.out _ _ _)

end Go.Proofs.Ytdllbnlimnahaaa
