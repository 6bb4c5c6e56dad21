/-
  Contracts of the marks of an update.
-/
import Derived.Test.YtaggmcdfggmlhaaLawQ
import Derived.Test.YtaggmcdfggmlhaaUpM
import Derived.Test.YtaggmcdfggmlhaaMarkK
namespace Go.Proofs.Ytaggmcdfggmlhaa
set_option linter.unusedSimpArgs false
set_option linter.unusedVariables false
open Go.ChangeShapes Go.WideShapes Go.ChangeAt Go.RowKit

def markUp (k : Nat) (u : Up) : Up := ⟨marksM k u.X.length, marksN (k + 8 * u.X.length) u.H.length⟩
def markEndU (k : Nat) (u : Up) : Nat := k + 8 * u.X.length + 2 * u.H.length
def SpanU (v : Value) (lo hi : Nat) : Prop := ∀ vx vh, v = .agg #[vx, vh] → ∀ g, (vx.ownBlock = some g ∨ vh.ownBlock = some g) → lo ≤ g ∧ g < hi
theorem UpOw.span {w : World} {base : Nat} {v : Value} {u : Up} (h : UpOw w base v u) : SpanU v base w.heap.size := by
  obtain ⟨vx, vh, rfl, h1, h3⟩ := h
  intro a c e g hg
  simp only [Value.agg.injEq, Array.mk.injEq, List.cons.injEq, and_true] at e
  obtain ⟨rfl, rfl⟩ := e
  rcases hg with hg | hg
  · exact h1.lies g hg
  · exact h3.lies g hg
theorem SpanU.wide {v : Value} {lo hi lo' hi' : Nat} (h : SpanU v lo hi) (h1 : lo' ≤ lo) (h2 : hi ≤ hi') : SpanU v lo' hi' := fun a c e g hg => by have := h a c e g hg; omega
theorem UpOw.kept {w w' : World} {base : Nat} {v : Value} {u : Up} (h : UpOw w base v u) {lo hi : Nat} (hw : Within lo hi w w') (hh : hi ≤ base) : UpOw w' base v u := by
  obtain ⟨vx, vh, rfl, h1, h3⟩ := h
  exact ⟨vx, vh, rfl, h1.kept hw (.inl hh), h3.kept hw (.inl hh)⟩
theorem UpAt.kept {w w' : World} {B : Nat} {v : Value} {u : Up} (h : UpAt w B v u) {lo hi : Nat} (hw : Within lo hi w w') (hh : B ≤ lo) (hz : B ≤ w.heap.size) : UpAt w' B v u := h.below (hw.below hh hz)
def MarkedU (w : World) (k : Nat) (v : Value) (u : Up) (lo hi : Nat) (e : Ending) (w' : World) : Prop := e = .returned (.int .i64 ((markEndU k u : Nat) : Int)) ∧ UpAt w' w'.heap.size v (markUp k u) ∧ Within lo hi w w'

set_option maxRecDepth 100000 in
set_option maxHeartbeats 4000000 in
theorem mark_update (v : Value) (u : Up) (base k lo hi : Nat) (w : World) (hv : UpOw w base v u) (hsp : SpanU v lo hi) (hhi : hi ≤ w.heap.size) (hk : 0 < k) (hk2 : markEndU k u ≤ 100000000) :
    Calls Try.prog 42 #[v, .int .i64 (k : Int)] w (MarkedU w k v u lo hi) := by
  unfold markEndU at hk2
  obtain ⟨vx, vh, rfl, hx, hh⟩ := hv
  have HSX := Lib.hid (fun g hg => hsp _ _ rfl g (.inl hg)); have HSH := Lib.hid (fun g hg => hsp _ _ rfl g (.inr hg))
  clear hsp
  obtain ⟨A1, k1, rfl⟩ := hx.form; obtain ⟨A3, k3, rfl⟩ := hh.form
  have hX1 := (RowM.of hx).lift (ball (Below.refl _ _) (.cells #[.slice A1 u.X.length k1, .slice A3 u.H.length k3] 37) (Nat.le_refl _))
  have hH1 := hh.lift (ball (Below.refl _ _) (.cells #[.slice A1 u.X.length k1, .slice A3 u.H.length k3] 37) (Nat.le_refl _))
  have HX := Lib.hid hX1; have HH := Lib.hid hH1
  clear hx hh hX1 hH1
  have HOB := Lib.hid (fun (L : List Im) (v : Value) g (h : ob v L = some g) => show v.ownBlock = some g by unfold ob at h; split at h; cases h; exact h)
  go_enter Try.func42, Try.ntmps42
  go_wp2_with fail
  refine (mark_row _ u.X base k _ HX.out hk (by omega)).mono ?_
  rintro e w1 ⟨rfl, hr1, hg1⟩
  have HB1 := Lib.hid (show w1.heap[w.heap.size]? = _ from (hg1.block _ (by simp) (fun e => by have := HSX.out _ (HOB.out _ _ _ e.symm); omega)).trans (heap_alloc_new w _))
  have HR1 := Lib.hid hr1
  have HH1 := Lib.hid (HX.out.ids HH.out hg1)
  have HW1 := Lib.hid (show Within lo hi w w1 from (Within.of_below (ball (Below.refl _ _) _ (Nat.le_refl _)) lo hi).trans (Within.of_grown hg1 (fun g hg => HSX.out _ (HOB.out _ _ _ hg))))
  have hz1 := hg1.size
  simp only [World.size_alloc] at hz1
  clear hr1 hg1 HX HH
  obtain ⟨x0, x1⟩ := box2 HB1.out
  go_wp2_with fail
  refine (mark_ids _ u.H base (k + 8 * u.X.length) _ HH1.out (by omega) (by omega)).mono ?_
  rintro e w3 ⟨rfl, ho3, hg3⟩
  have HX3 := Lib.hid (show RowM w3 base (.slice A1 u.X.length k1) (marksM k u.X.length) from by
    rcases HR1.out with h | ⟨h0, h⟩
    · exact .inl h
    · exact .inr ⟨h0, World.ownsRow.kept h hg3 (h.apart HH1.out (by decide))⟩)
  have HH3 := Lib.hid ho3
  have HW3 := Lib.hid (HW1.out.trans (Within.of_grown hg3 (fun g hg => HSH.out _ hg)))
  clear ho3 hg3 x0 x1
  go_wp2
  go_ret
  exact ⟨rfl, ⟨_, _, rfl, HX3.out.sl, HH3.out.sl encN_len⟩, HW3.out⟩

set_option maxRecDepth 100000 in
set_option maxHeartbeats 4000000 in
theorem held_update (v : Value) (u : Up) (k : Nat) (w : World) (hv : UpAt w w.heap.size v (markUp k u)) (hk : 0 < k) (hk2 : markEndU k u ≤ 100000000) :
    Calls Try.prog 43 #[v, .int .i64 (k : Int)] w (Holds w (markEndU k u)) := by
  unfold markEndU at hk2
  obtain ⟨vx, vh, rfl, hx, hh⟩ := hv
  simp only [markUp] at hx hh
  have HX := Lib.hid (fun W (hb : Below w.heap.size w W) => held_items vx k u.X.length W ((hx.below hb).more hb.size) hk (by omega))
  have HH := Lib.hid (fun W (hb : Below w.heap.size w W) => held_ids vh (k + 8 * u.X.length) u.H.length W ((hh.below hb).more hb.size) (by omega) (by omega))
  have HL := Lib.hid ((Lg.start w).alloc (.cells #[vx, vh] 37))
  obtain ⟨A1, k1, rfl⟩ := hx.form; obtain ⟨A3, k3, rfl⟩ := hh.form
  clear hx hh
  have n1 : ¬ ((k + 8 * u.X.length : Nat) : Int) < 0 := by omega
  have n3 : ¬ ((k + 8 * u.X.length + 2 * u.H.length : Nat) : Int) < 0 := by omega
  go_enter Try.func43, Try.ntmps43
  go_wp2_with fail
  refine (HX.out _ HL.out.bel).mono ?_
  rintro e w1 ⟨rfl, hb1⟩
  replace HL := Lib.hid (HL.out.lift hb1); clear hb1
  obtain ⟨x0, x1⟩ := box2 (HL.out.blk _ List.mem_cons_self)
  go_wp2_with fail
  refine (HH.out _ HL.out.bel).mono ?_
  rintro e w3 ⟨rfl, hb3⟩
  replace HL := Lib.hid (HL.out.lift hb3); clear hb3 x0 x1
  go_wp2
  go_ret
  exact ⟨rfl, HL.out.bel⟩

end Go.Proofs.Ytaggmcdfggmlhaa
