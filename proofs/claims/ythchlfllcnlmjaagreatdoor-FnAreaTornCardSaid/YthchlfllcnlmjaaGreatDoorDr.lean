/-
  The draws of a disk with a list; where a draw stands behind its disk.
-/
import Derived.Test.YthchlfllcnlmjaaGreatDoorDrawD
/-! The draws of a disk with a list, a place, a text: DrawDiskCrash. -/
namespace Go.Proofs.YthchlfllcnlmjaaGreatDoor
open Go.ChangeShapes Go.WideShapes Go.ChangeAt Go.RowKit

theorem Code.more {w : World} {B B' : Nat} {cv : Value} {len : Nat} (h : Code w B cv len) (hB : B ≤ B') : Code w B' cv len := by
  obtain ⟨a, cap, rfl, hl, h⟩ := h
  refine ⟨a, cap, rfl, hl, h.imp id ?_⟩
  rintro ⟨b, off, rfl, hb, hc⟩
  exact ⟨b, off, rfl, by omega, hc⟩

/-- A drawn disk and a list. -/
def DiskKeep (w : World) (e : Ending) (w' : World) : Prop :=
  ∃ A1 c1 A2 c2 d vk l, e = .returned (.tuple #[.agg #[.slice A1 d.S.length c1, .slice A2 d.P.length c2], vk]) ∧ DkOw w' w.heap.size (.agg #[.slice A1 d.S.length c1, .slice A2 d.P.length c2]) d ∧ Drawn d
    ∧ Ow w' w.heap.size 2 1 encI vk l ∧ l.length ≤ 14 ∧ Below w.heap.size w w'

theorem blk_ne {w w' : World} {b S : Nat} {o : Obj} (h : w.heap[b]? = some o) (hg : w.grownBy w' (some S)) (hb : b ≠ S) : w'.heap[b]? = some o := by
  rw [hg.block b (block_lt h) (fun e => hb (Option.some.inj e))]
  exact h
theorem blk_nd {w w' : World} {b S : Nat} {o : Obj} (h : w.heap[b]? = some o) (hg : w.drew.grownBy w' (some S)) (hb : b ≠ S) : w'.heap[b]? = some o := blk_ne (w := w.drew) h hg hb
theorem Src.drew {w : World} {S : Nat} {cv : Value} {len : Nat} (h : Src w S cv len) : Src w.drew S cv len := h.keep rfl
theorem Src.alloc {w : World} {S : Nat} {cv : Value} {len : Nat} (h : Src w S cv len) (o : Obj) : Src (w.alloc o) S cv len := h.keep (Below.heap_alloc _ _ _ h.lt)

set_option maxRecDepth 100000 in
set_option maxHeartbeats 2000000 in
theorem draw_diskcrash (cv : Value) (len : Nat) (w : World) (hC : Code w w.heap.size cv len) :
    Calls Tryz.prog 19 #[cv] w (DiskKeep w) := by
  have hA0 : w.grownBy (w.alloc (.cells #[.slice none 0 0, .slice none 0 0] 26)) (some w.heap.size) := World.grownBy_alloc _ _ _
  have HC := Lib.hid ((hC.on hA0).more (B' := (w.alloc (.cells #[.slice none 0 0, .slice none 0 0] 26)).heap.size) (by simp only [World.size_alloc]; omega))
  clear hC hA0
  go_enter Tryz.func19, Tryz.ntmps19
  go_wp2_with fail
  refine (draw_source cv len _ HC.out).mono ?_
  rintro e w1 ⟨rfl, hb1, hS1, hC1⟩
  have hz0 := hb1.size
  simp only [World.size_alloc] at hz0
  have HZ := Lib.hid (keep_blk hb1 (heap_alloc_new w (.cells #[.slice none 0 0, .slice none 0 0] 26)))
  have HB1 := Lib.hid (((Below.refl w.heap.size w).alloc (Nat.le_refl _) (.cells #[.slice none 0 0, .slice none 0 0] 26)).trans (hb1.mono (by simp only [World.size_alloc]; omega)))
  simp only [World.size_alloc] at hS1 hC1
  have HS1 := Lib.hid hS1; have HC1 := Lib.hid hC1; clear hb1 hS1 hC1 HC
  go_wp2_with fail
  refine (draw_disk _ cv len w1 HS1.out HC1.out).mono ?_
  rintro e w2 ⟨A1, c1, A2, c2, d, rfl, ho, hd, hg2, hS2⟩
  have hz1 := hg2.size
  have hsl := HS1.out.lt
  have HB2 := Lib.hid (HB1.out.grown hg2 HB1.out.size (fun k hk => by cases hk; omega))
  have HC2 := Lib.hid ((HC1.out.on hg2).on (World.grownBy_alloc w2 (.cells #[.slice A1 d.S.length c1, .slice A2 d.P.length c2] 26) _))
  have HS2 := Lib.hid (hS2.alloc (.cells #[.slice A1 d.S.length c1, .slice A2 d.P.length c2] 26))
  have HZ2 := Lib.hid (alloc_blk (blk_ne HZ.out hg2 (by omega)) (.cells #[.slice A1 d.S.length c1, .slice A2 d.P.length c2] 26))
  have HX2 := Lib.hid (heap_alloc_new w2 (.cells #[.slice A1 d.S.length c1, .slice A2 d.P.length c2] 26))
  have HO2 := Lib.hid (ho.alloc (.cells #[.slice A1 d.S.length c1, .slice A2 d.P.length c2] 26))
  have HD := Lib.hid hd
  clear hg2 hS2 ho hd HZ HB1 HS1 HC1
  obtain ⟨x0, x1⟩ := box2 HX2.out
  go_wp2
  go_region_with (go_at_call 57; (with_reducible refine (draw_keep _ cv len _ HS2.out.drew (HC2.out.on (grownBy_drew (World.grownBy.refl _ _)))).mono ?_); rintro e w3 ⟨vk, l, rfl, ho3, hl3, hg3, hS3⟩; obtain ⟨x0, x1⟩ := box2 (blk_nd HX2.out hg3 (by omega)); obtain ⟨z0, z1⟩ := box2 (blk_nd HZ2.out hg3 (by omega)); obtain ⟨k0, k1, _, _⟩ := box_frozen (blk_nd HZ2.out hg3 (by omega)))
  all_goals
    go_wp2
    refine bodyPost_ret (v := .tuple #[.agg #[.slice A1 d.S.length c1, .slice A2 d.P.length c2], vk]) (by simp [results, Tryz.results19, go_sem, z0, z1]) rfl ?_
    have hgd := grownBy_drew (World.grownBy.refl (w2.alloc (.cells #[.slice A1 d.S.length c1, .slice A2 d.P.length c2] 26)) (some (w.heap.size + 1)))
    have hgx := grown_trans hgd hg3
    have hz3 := hgx.size
    simp only [World.size_alloc] at hz3
    refine ⟨A1, c1, A2, c2, d, vk, l, rfl, ?_, HD.out, ?_, hl3, ?_⟩
    · exact (((HO2.out.by_ hgx hsl).far (by simp only; omega) _).far (by simp only; omega) _).base (by omega)
    · have h := Ow.base (base' := w.heap.size + 1) ho3 (by show _ ≤ (w2.alloc _).heap.size; simp only [World.size_alloc]; omega)
      exact Ow.base (Ow.far (Ow.far h (by simp only; omega) _) (by simp only; omega) _) (by omega)
    · refine Below.setCell (Below.setCell ?_ (by simp only; omega) _) (by simp only; omega) _
      exact (HB2.out.alloc HB2.out.size _).grown hgx (by simp only [World.size_alloc]; have := HB2.out.size; omega) (fun k hk => by cases hk; omega)

end Go.Proofs.YthchlfllcnlmjaaGreatDoor

/-! Where a draw stands, behind its disk. -/
namespace Go.Proofs.YthchlfllcnlmjaaGreatDoor
open Go.ChangeShapes Go.WideShapes Go.ChangeAt Go.RowKit

/-- Where a draw stands, behind its disk: the source in the block behind the result's, the disk in the box b. -/
structure Dr (w W : World) (cv : Value) (len b : Nat) (s p : Value) (d : Dk) : Prop where
  bel : Below w.heap.size w W
  src : Src W (w.heap.size + 1) cv len
  code : Code W (w.heap.size + 1) cv len
  res : W.heap[w.heap.size]? = some (.cells #[.slice none 0 0, .slice none 0 0] 26 (0, 0))
  box : W.heap[b]? = some (.cells #[s, p] 26 (0, 0))
  far : w.heap.size + 1 < b
  own : DkOw W (w.heap.size + 2) (.agg #[s, p]) d

theorem Dr.by_ {w W W' : World} {cv : Value} {len b : Nat} {s p : Value} {d : Dk} (h : Dr w W cv len b s p d) (hg : W.grownBy W' (some (w.heap.size + 1))) (hs : Src W' (w.heap.size + 1) cv len) : Dr w W' cv len b s p d :=
  ⟨h.bel.grown hg h.bel.size (fun k hk => by cases hk; omega), hs, h.code.on hg, blk_ne h.res hg (by omega), blk_ne h.box hg (by have := h.far; omega), h.far, h.own.by_ hg (by omega)⟩
theorem Dr.alloc {w W : World} {cv : Value} {len b : Nat} {s p : Value} {d : Dk} (h : Dr w W cv len b s p d) (o : Obj) : Dr w (W.alloc o) cv len b s p d :=
  ⟨h.bel.alloc h.bel.size _, h.src.alloc _, h.code.on (World.grownBy_alloc _ _ _), alloc_blk h.res _, alloc_blk h.box _, h.far, h.own.alloc _⟩
theorem Dr.drew {w W : World} {cv : Value} {len b : Nat} {s p : Value} {d : Dk} (h : Dr w W cv len b s p d) : Dr w W.drew cv len b s p d := h.by_ (grownBy_drew (World.grownBy.refl _ _)) h.src.drew
/-- Behind the disk's draw, in its box. -/
theorem dr_made {w w1 w2 : World} {cv : Value} {len : Nat} {A1 A2 : Option Addr} {c1 c2 : Nat} {d : Dk} (hb : Below (w.alloc (.cells #[.slice none 0 0, .slice none 0 0] 26)).heap.size (w.alloc (.cells #[.slice none 0 0, .slice none 0 0] 26)) w1)
    (hS : Src w1 (w.heap.size + 1) cv len) (hC : Code w1 (w.heap.size + 1) cv len) (ho : DkOw w2 w1.heap.size (.agg #[.slice A1 d.S.length c1, .slice A2 d.P.length c2]) d) (hg : w1.grownBy w2 (some (w.heap.size + 1))) (hS2 : Src w2 (w.heap.size + 1) cv len) :
    Dr w (w2.alloc (.cells #[.slice A1 d.S.length c1, .slice A2 d.P.length c2] 26)) cv len w2.heap.size (.slice A1 d.S.length c1) (.slice A2 d.P.length c2) d := by
  have hz0 := hb.size
  simp only [World.size_alloc] at hz0
  have hz1 := hg.size
  have hsl := hS.lt
  have hB1 : Below w.heap.size w w1 := ((Below.refl w.heap.size w).alloc (Nat.le_refl _) (.cells #[.slice none 0 0, .slice none 0 0] 26)).trans (hb.mono (by simp only [World.size_alloc]; omega))
  have hB2 : Below w.heap.size w w2 := hB1.grown hg hB1.size (fun k hk => by cases hk; omega)
  exact ⟨hB2.alloc hB2.size _, hS2.alloc _, (hC.on hg).on (World.grownBy_alloc _ _ _), alloc_blk (blk_ne (keep_blk hb (heap_alloc_new w _)) hg (by omega)) _, heap_alloc_new _ _, by omega, (ho.alloc _).base (by omega)⟩
/-- The result's box is written. -/
theorem Dr.done {w W : World} {cv : Value} {len b : Nat} {s p : Value} {d : Dk} (h : Dr w W cv len b s p d) (y0 y1 : Value) : DkOw ((W.setCell ⟨w.heap.size, 0, none⟩ y0).setCell ⟨w.heap.size, 1, none⟩ y1) w.heap.size (.agg #[s, p]) d ∧ Below w.heap.size w ((W.setCell ⟨w.heap.size, 0, none⟩ y0).setCell ⟨w.heap.size, 1, none⟩ y1) :=
  ⟨((h.own.far (by simp only; omega) _).far (by simp only; omega) _).base (by omega), Below.setCell (Below.setCell h.bel (by simp only; omega) _) (by simp only; omega) _⟩
/-- The same, where another block was made. -/
theorem Dr.done_made {w W : World} {cv : Value} {len b : Nat} {s p : Value} {d : Dk} (h : Dr w W cv len b s p d) (o : Obj) (y0 y1 : Value) : DkOw (((W.setCell ⟨w.heap.size, 0, none⟩ y0).setCell ⟨w.heap.size, 1, none⟩ y1).alloc o) w.heap.size (.agg #[s, p]) d ∧ Below w.heap.size w (((W.setCell ⟨w.heap.size, 0, none⟩ y0).setCell ⟨w.heap.size, 1, none⟩ y1).alloc o) :=
  ⟨(h.done y0 y1).1.alloc _, (h.done y0 y1).2.alloc (h.done y0 y1).2.size _⟩

theorem made_behind (W : World) (p q : Addr) (u v : Value) (M : Array Value) : (((W.setCell p u).setCell q v).alloc (.cells M 5)).heap[W.heap.size]? = some (.cells M 5 (0, 0)) := by
  have h := heap_alloc_new ((W.setCell p u).setCell q v) (.cells M 5)
  simpa only [World.size_setCell] using h
theorem str_le {l : List UInt8} (h : l.length ≤ 65) : (ByteArray.mk l.toArray).size ≤ 65 := by rw [str_size]; exact h

end Go.Proofs.YthchlfllcnlmjaaGreatDoor
