/-
  Contracts of the marks of a disk and of a disk's answer.
-/
import Derived.Test.YtjpcpdapbhmgiaaMark
import Derived.Test.YtjpcpdapbhmgiaaLawAid
namespace Go.Proofs.Ytjpcpdapbhmgiaa
open Go.ChangeShapes Go.WideShapes Go.ChangeAt Go.RowKit

/-- In which blocks a disk's parts lie. -/
def Span (v : Value) (lo hi : Nat) : Prop := ∀ vs vp, v = .agg #[vs, vp] → ∀ g, (vs.ownBlock = some g ∨ vp.ownBlock = some g) → lo ≤ g ∧ g < hi
theorem DkOw.span {w : World} {base : Nat} {v : Value} {d : Dk} (h : DkOw w base v d) : Span v base w.heap.size := by
  obtain ⟨vs, vp, rfl, h1, h2⟩ := h
  intro a b e g hg
  simp only [Value.agg.injEq, Array.mk.injEq, List.cons.injEq, and_true] at e
  obtain ⟨rfl, rfl⟩ := e
  rcases hg with hg | hg
  · exact h1.lies g hg
  · exact h2.lies g hg
theorem Span.wide {v : Value} {lo hi lo' hi' : Nat} (h : Span v lo hi) (h1 : lo' ≤ lo) (h2 : hi ≤ hi') : Span v lo' hi' := fun a b e g hg => by have := h a b e g hg; omega
/-- A disk that lies elsewhere stays. -/
theorem DkOw.kept {w w' : World} {base : Nat} {v : Value} {d : Dk} (h : DkOw w base v d) {lo hi : Nat} (hw : Within lo hi w w') (hh : hi ≤ base) : DkOw w' base v d := by
  obtain ⟨vs, vp, rfl, h1, h2⟩ := h
  exact ⟨vs, vp, rfl, h1.kept hw (.inl hh), h2.kept hw (.inl hh)⟩
theorem DkAt.kept {w w' : World} {B : Nat} {v : Value} {d : Dk} (h : DkAt w B v d) {lo hi : Nat} (hw : Within lo hi w w') (hh : B ≤ lo) (hz : B ≤ w.heap.size) : DkAt w' B v d := h.below (hw.below hh hz)

/-- A disk with marks. -/
def markDk (k : Nat) (d : Dk) : Dk := ⟨marksS k d.S.length, marksP (k + d.S.length) d.P.length⟩
def markEnd (k : Nat) (d : Dk) : Nat := k + d.S.length + 2 * d.P.length
/-- Marks have been laid into a disk that the call owns. -/
def MarkedDk (w : World) (base k : Nat) (v : Value) (d : Dk) (lo hi : Nat) (e : Ending) (w' : World) : Prop :=
  e = .returned (.int .i64 (markEnd k d : Int)) ∧ DkOw w' base v (markDk k d) ∧ Within lo hi w w'

set_option maxRecDepth 100000 in
theorem mark_disk (v : Value) (d : Dk) (base k lo hi : Nat) (w : World) (hv : DkOw w base v d) (hk : 0 < k) (hk2 : markEnd k d ≤ 100000000) (hs : Span v lo hi) :
    Calls Try.prog 31 #[v, .int .i64 (k : Int)] w (MarkedDk w base k v d lo hi) := by
  obtain ⟨vs, vp, rfl, h1, h2⟩ := hv
  unfold markEnd at hk2
  have hsp := hs vs vp rfl
  have HA1 := Lib.hid (show ∀ g, vs.ownBlock = some g → lo ≤ g ∧ g < hi from fun g hg => hsp g (.inl hg))
  have HA2 := Lib.hid (show ∀ g, vp.ownBlock = some g → lo ≤ g ∧ g < hi from fun g hg => hsp g (.inr hg))
  have HN := Lib.hid (Ow.apart h1 h2 (by decide))
  have HN' := Lib.hid (Ow.apart h2 h1 (by decide))
  have HL1 := Lib.hid h1.lies
  have HL2 := Lib.hid h2.lies
  have H1 := Lib.hid h1; have H2 := Lib.hid h2
  clear h1 h2 hs hsp
  go_enter Try.func31, Try.ntmps31
  go_wp2_with fail
  refine (mark_strings vs d.S base k _ (H1.out.alloc _) hk (by omega)).mono ?_
  rintro e w1 ⟨rfl, ho1, hg1⟩
  have HG1 := Lib.hid hg1; have HO1 := Lib.hid ho1
  have HB1 := Lib.hid (show w1.heap[w.heap.size]? = some (.cells #[vs, vp] 26 (0, 0)) from (hg1.block w.heap.size (by simp) (fun e => by have := (HL1.out _ e.symm).2; omega)).trans (heap_alloc_new _ _))
  have HP1 := Lib.hid (show Ow w1 base 46 2 encP vp d.P from World.ownsRow.kept (H2.out.alloc _) hg1 HN'.out)
  clear hg1 ho1
  obtain ⟨x0, x1⟩ := box2 HB1.out
  go_wp2_with fail
  refine (mark_pendings vp d.P base (k + d.S.length) _ HP1.out (by omega) (by omega)).mono ?_
  rintro e w2 ⟨rfl, ho2, hg2⟩
  have HG2 := Lib.hid hg2; have HO2 := Lib.hid ho2
  have HS2 := Lib.hid (show Ow w2 base 9 1 encS vs (marksS k d.S.length) from World.ownsRow.kept HO1.out hg2 HN.out)
  clear hg2 ho2 x0 x1
  go_wp2
  go_ret
  refine ⟨rfl, ⟨vs, vp, rfl, HS2.out, HO2.out⟩, ?_⟩
  exact ((Within.of_below ((Below.refl _ w).alloc (Nat.le_refl _) _) lo hi).trans (Within.of_grown HG1.out HA1.out)).trans (Within.of_grown HG2.out HA2.out)

set_option maxRecDepth 100000 in
theorem held_disk (v : Value) (d : Dk) (k : Nat) (w : World) (hv : DkAt w w.heap.size v (markDk k d)) (hk : 0 < k) (hk2 : markEnd k d ≤ 100000000) :
    Calls Try.prog 32 #[v, .int .i64 (k : Int)] w (Holds w (markEnd k d)) := by
  obtain ⟨vs, vp, rfl, h1, h2⟩ := hv
  unfold markEnd at hk2
  have H1 := Lib.hid (fun W (hb : Below w.heap.size w W) => held_strings vs k d.S.length W ((h1.below hb).more hb.size) hk (by omega))
  have H2 := Lib.hid (fun W (hb : Below w.heap.size w W) => held_pendings vp (k + d.S.length) d.P.length W ((h2.below hb).more hb.size) (by omega) (by omega))
  clear h1 h2
  go_enter Try.func32, Try.ntmps32
  go_wp2_with fail
  refine (H1.out _ ((Below.refl _ _).alloc (Nat.le_refl _) _)).mono ?_
  rintro e w1 ⟨rfl, hb1⟩
  obtain ⟨x0, x1⟩ := box2 (box_kept hb1)
  have HB1 := Lib.hid (below_alloc_call (Below.refl _ w) (Nat.le_refl _) hb1)
  clear hb1
  go_wp2_with fail
  refine (H2.out _ HB1.out).mono ?_
  rintro e w2 ⟨rfl, hb2⟩
  have HB2 := Lib.hid (below_call HB1.out HB1.out.size hb2)
  clear hb2 x0 x1
  go_wp2
  go_ret
  exact ⟨rfl, HB2.out⟩

theorem mark_disk1 (v : Value) (d : Dk) (base lo hi : Nat) (w : World) (hv : DkOw w base v d) (hk2 : markEnd 1 d ≤ 100000000) (hs : Span v lo hi) :
    Calls Try.prog 31 #[v, .int .i64 1] w (MarkedDk w base 1 v d lo hi) := mark_disk v d base 1 lo hi w hv (by omega) hk2 hs
theorem held_disk1 (v : Value) (d : Dk) (w : World) (hv : DkAt w w.heap.size v (markDk 1 d)) (hk2 : markEnd 1 d ≤ 100000000) :
    Calls Try.prog 32 #[v, .int .i64 1] w (Holds w (markEnd 1 d)) := held_disk v d 1 w hv (by omega) hk2
/-- Marks have been laid, the disk's parts named. -/
theorem MarkedDk.back {w : World} {base k : Nat} {v : Value} {d : Dk} {lo hi : Nat} {e : Ending} {w' : World} (h : MarkedDk w base k v d lo hi e w') : ∃ r : Nat, r = markEnd k d ∧ e = .returned (.int .i64 (r : Int)) ∧ DkOw w' base v (markDk k d) ∧ Within lo hi w w' := ⟨_, rfl, h.1, h.2.1, h.2.2⟩
theorem Holds.back {w : World} {r : Nat} {e : Ending} {w' : World} (h : Holds w r e w') : e = .returned (.int .i64 (r : Int)) ∧ Below w.heap.size w w' := h
/-- A block below what is written stays. -/
theorem keep_within {w w' : World} {lo hi b : Nat} {o : Obj} (h : Within lo hi w w') (hb : w.heap[b]? = some o) (hlo : b < lo ∨ hi ≤ b) : w'.heap[b]? = some o := by
  rw [h.block b (block_lt hb) hlo]
  exact hb
theorem below_within {B lo hi : Nat} {a w w' : World} (h : Below B a w) (k : Within lo hi w w') (hB : B ≤ lo) (hz : B ≤ w.heap.size) : Below B a w' := h.trans (k.below hB hz)

end Go.Proofs.Ytjpcpdapbhmgiaa
