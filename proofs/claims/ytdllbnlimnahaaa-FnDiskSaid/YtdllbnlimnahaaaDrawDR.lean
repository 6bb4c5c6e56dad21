/-
  The draws of a disk with a list, a place, a text: DrawDiskCrash.
-/
import Derived.Test.YtdllbnlimnahaaaDrawD
import Derived.Test.YtdllbnlimnahaaaDrawDN
namespace Go.Proofs.Ytdllbnlimnahaaa
open Go.ChangeShapes Go.WideShapes Go.ChangeAt Go.RowKit

theorem Code.more {w : World} {B B' : Nat} {cv : Value} {len : Nat} (h : Code w B cv len) (hB : B ≤ B') : Code w B' cv len := by
  obtain ⟨a, cap, rfl, hl, h⟩ := h
  refine ⟨a, cap, rfl, hl, h.imp id ?_⟩
  rintro ⟨b, off, rfl, hb, hc⟩
  exact ⟨b, off, rfl, by omega, hc⟩

/-- A drawn disk and a list. -/
def DiskKeep (w : World) (e : Ending) (w' : World) : Prop :=
  ∃ A1 c1 A2 c2 d vk l, e = .returned (.tuple #[.agg #[.slice A1 d.S.length c1, .slice A2 d.P.length c2], vk]) ∧ DkOw w' w.heap.size (.agg #[.slice A1 d.S.length c1, .slice A2 d.P.length c2]) d ∧ Drawn d
    ∧ Ow w' w.heap.size 2 1 encI vk l ∧ l.length ≤ 14 ∧ Below w.heap.size w w'

theorem blk_ne {w w' : World} {b S : Nat} {o : Obj} (h : w.heap[b]? = some o) (hg : w.grownBy w' (some S)) (hb : b ≠ S) : w'.heap[b]? = some o := by
  rw [hg.block b (block_lt h) (fun e => hb (Option.some.inj e))]
  exact h
theorem blk_nd {w w' : World} {b S : Nat} {o : Obj} (h : w.heap[b]? = some o) (hg : w.drew.grownBy w' (some S)) (hb : b ≠ S) : w'.heap[b]? = some o := blk_ne (w := w.drew) h hg hb
theorem Src.drew {w : World} {S : Nat} {cv : Value} {len : Nat} (h : Src w S cv len) : Src w.drew S cv len := h.keep rfl
theorem Src.alloc {w : World} {S : Nat} {cv : Value} {len : Nat} (h : Src w S cv len) (o : Obj) : Src (w.alloc o) S cv len := h.keep (Below.heap_alloc _ _ _ h.lt)

set_option maxRecDepth 100000 in
set_option maxHeartbeats 2000000 in
theorem draw_diskcrash (cv : Value) (len : Nat) (w : World) (hC : Code w w.heap.size cv len) :
    Calls Try.prog 7 #[cv] w (DiskKeep w) := by
  have hA0 : w.grownBy (w.alloc (.cells #[.slice none 0 0, .slice none 0 0] 26)) (some w.heap.size) := World.grownBy_alloc _ _ _
  have HC := Lib.hid ((hC.on hA0).more (B' := (w.alloc (.cells #[.slice none 0 0, .slice none 0 0] 26)).heap.size) (by simp only [World.size_alloc]; omega))
  clear hC hA0
  go_enter Try.func7, Try.ntmps7
  go_wp2_with fail
  refine (draw_source cv len _ HC.out).mono ?_
  rintro e w1 ⟨rfl, hb1, hS1, hC1⟩
  have hz0 := hb1.size
  simp only [World.size_alloc] at hz0
  have HZ := Lib.hid (keep_blk hb1 (heap_alloc_new w (.cells #[.slice none 0 0, .slice none 0 0] 26)))
  have HB1 := Lib.hid (((Below.refl w.heap.size w).alloc (Nat.le_refl _) (.cells #[.slice none 0 0, .slice none 0 0] 26)).trans (hb1.mono (by simp only [World.size_alloc]; omega)))
  simp only [World.size_alloc] at hS1 hC1
  have HS1 := Lib.hid hS1; have HC1 := Lib.hid hC1; clear hb1 hS1 hC1 HC
  go_wp2_with fail
  refine (draw_disk _ cv len w1 HS1.out HC1.out).mono ?_
  rintro e w2 ⟨A1, c1, A2, c2, d, rfl, ho, hd, hg2, hS2⟩
  have hz1 := hg2.size
  have hsl := HS1.out.lt
  have HB2 := Lib.hid (HB1.out.grown hg2 HB1.out.size (fun k hk => by cases hk; omega))
  have HC2 := Lib.hid ((HC1.out.on hg2).on (World.grownBy_alloc w2 (.cells #[.slice A1 d.S.length c1, .slice A2 d.P.length c2] 26) _))
  have HS2 := Lib.hid (hS2.alloc (.cells #[.slice A1 d.S.length c1, .slice A2 d.P.length c2] 26))
  have HZ2 := Lib.hid (alloc_blk (blk_ne HZ.out hg2 (by omega)) (.cells #[.slice A1 d.S.length c1, .slice A2 d.P.length c2] 26))
  have HX2 := Lib.hid (heap_alloc_new w2 (.cells #[.slice A1 d.S.length c1, .slice A2 d.P.length c2] 26))
  have HO2 := Lib.hid (ho.alloc (.cells #[.slice A1 d.S.length c1, .slice A2 d.P.length c2] 26))
  have HD := Lib.hid hd
  clear hg2 hS2 ho hd HZ HB1 HS1 HC1
  obtain ⟨x0, x1⟩ := box2 HX2.out
  go_wp2
  go_region_with (go_at_call 37; (with_reducible refine (draw_keep _ cv len _ HS2.out.drew (HC2.out.on (grownBy_drew (World.grownBy.refl _ _)))).mono ?_); rintro e w3 ⟨vk, l, rfl, ho3, hl3, hg3, hS3⟩; obtain ⟨x0, x1⟩ := box2 (blk_nd HX2.out hg3 (by omega)); obtain ⟨z0, z1⟩ := box2 (blk_nd HZ2.out hg3 (by omega)); obtain ⟨k0, k1, _, _⟩ := box_frozen (blk_nd HZ2.out hg3 (by omega)))
  all_goals
    go_wp2
    refine bodyPost_ret (v := .tuple #[.agg #[.slice A1 d.S.length c1, .slice A2 d.P.length c2], vk]) (by simp [results, Try.results7, go_sem, z0, z1]) rfl ?_
    have hgd := grownBy_drew (World.grownBy.refl (w2.alloc (.cells #[.slice A1 d.S.length c1, .slice A2 d.P.length c2] 26)) (some (w.heap.size + 1)))
    have hgx := grown_trans hgd hg3
    have hz3 := hgx.size
    simp only [World.size_alloc] at hz3
    refine ⟨A1, c1, A2, c2, d, vk, l, rfl, ?_, HD.out, ?_, hl3, ?_⟩
    · exact (((HO2.out.by_ hgx hsl).far (by simp only; omega) _).far (by simp only; omega) _).base (by omega)
    · have h := Ow.base (base' := w.heap.size + 1) ho3 (by show _ ≤ (w2.alloc _).heap.size; simp only [World.size_alloc]; omega)
      exact Ow.base (Ow.far (Ow.far h (by simp only; omega) _) (by simp only; omega) _) (by omega)
    · refine Below.setCell (Below.setCell ?_ (by simp only; omega) _) (by simp only; omega) _
      exact (HB2.out.alloc HB2.out.size _).grown hgx (by simp only [World.size_alloc]; have := HB2.out.size; omega) (fun k hk => by cases hk; omega)

end Go.Proofs.Ytdllbnlimnahaaa
