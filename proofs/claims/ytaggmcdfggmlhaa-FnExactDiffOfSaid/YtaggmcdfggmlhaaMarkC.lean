/-
  Contracts of the marks of a doc, of an answer; answers compared.
-/
import Derived.Test.YtaggmcdfggmlhaaMarkI
import Derived.Test.YtaggmcdfggmlhaaEqDoc
import Derived.Test.YtaggmcdfggmlhaaDocQ
import Derived.Test.YtaggmcdfggmlhaaToDocB
namespace Go.Proofs.Ytaggmcdfggmlhaa
set_option linter.unusedSimpArgs false
set_option linter.unusedVariables false
open Go.ChangeShapes Go.WideShapes Go.ChangeAt Go.RowKit

/-- A row of items that may be marked: empty, or the call's own. -/
def RowM (w : World) (base : Nat) (v : Value) (L : List Im) : Prop := (L.length = 0 ∧ ∃ A c, v = .slice A 0 c) ∨ (0 < L.length ∧ Ow w base 91 8 encM v L)
/-- The block that marks are laid into. -/
def ob (v : Value) (L : List Im) : Option Nat := if L.length = 0 then none else v.ownBlock
theorem RowM.of {w : World} {base : Nat} {v : Value} {L : List Im} (h : Ow w base 91 8 encM v L) : RowM w base v L := by
  rcases Nat.eq_zero_or_pos L.length with h0 | h0
  · obtain ⟨A, c, e⟩ := h.form
    exact .inl ⟨h0, A, c, by rw [e, h0]⟩
  · exact .inr ⟨h0, h⟩
theorem RowM.form {w : World} {base : Nat} {v : Value} {L : List Im} (h : RowM w base v L) : ∃ A c, v = .slice A L.length c := by
  rcases h with ⟨h0, A, c, e⟩ | ⟨_, h⟩
  · exact ⟨A, c, by rw [e, h0]⟩
  · exact h.form
theorem RowM.lift {w w' : World} {base : Nat} {v : Value} {L : List Im} (h : RowM w base v L) (hb : Below w.heap.size w w') : RowM w' base v L := by
  rcases h with h | ⟨h0, h⟩
  · exact .inl h
  · exact .inr ⟨h0, h.lift hb⟩
theorem RowM.sl {w : World} {base : Nat} {v : Value} {L : List Im} (h : RowM w base v L) : Sl w w.heap.size 8 encM v L := by
  rcases h with ⟨h0, A, c, e⟩ | ⟨_, h⟩
  · obtain rfl : L = [] := List.length_eq_zero_iff.1 h0
    rw [e]; exact Sl.nil_ w _ 8 encM c A
  · exact h.sl encM_len
theorem below_none {w w' : World} (h : w.grownBy w' none) : Below w.heap.size w w' := ⟨h.os, h.tape, h.output, h.size, fun j hj => h.block j hj (by simp)⟩
theorem RowM.kept {w w' : World} {base : Nat} {v v2 : Value} {L L2 : List Im} (h : RowM w base v2 L2) (hg : w.grownBy w' (ob v L)) (ha : 0 < L.length → 0 < L2.length → v.ownBlock ≠ v2.ownBlock) : RowM w' base v2 L2 := by
  by_cases hL : L.length = 0
  · unfold ob at hg
    rw [if_pos hL] at hg
    exact h.lift (below_none hg)
  · unfold ob at hg
    rw [if_neg hL] at hg
    rcases h with h | ⟨h0, h⟩
    · exact .inl h
    · exact .inr ⟨h0, World.ownsRow.kept h hg (.inr (ha (by omega) h0).symm)⟩
theorem RowM.ids {w w' : World} {base : Nat} {v v2 : Value} {L : List Im} {H : List Nm} (hr : RowM w base v L) (h : Ow w base 89 2 encN v2 H) (hg : w.grownBy w' (ob v L)) : Ow w' base 89 2 encN v2 H := by
  by_cases hL : L.length = 0
  · unfold ob at hg
    rw [if_pos hL] at hg
    exact h.lift (below_none hg)
  · unfold ob at hg
    rw [if_neg hL] at hg
    rcases hr with ⟨h0, _⟩ | ⟨_, hr⟩
    · exact absurd h0 hL
    · exact World.ownsRow.kept h hg (h.apart hr (by decide))

theorem box4c {w : World} {b : Nat} {x0 x1 x2 x3 : Value} {T : TypeId} (h : w.heap[b]? = some (.cells #[x0, x1, x2, x3] T (0, 0))) : w.cell? ⟨b, 0, none⟩ = some x0 ∧ w.cell? ⟨b, 1, none⟩ = some x1 ∧ w.cell? ⟨b, 2, none⟩ = some x2 ∧ w.cell? ⟨b, 3, none⟩ = some x3 := by
  refine ⟨?_, ?_, ?_, ?_⟩ <;> simp [World.cell?, h]
theorem mark_row (v : Value) (L : List Im) (base k : Nat) (w : World) (hv : RowM w base v L) (hk : 0 < k) (hk2 : k + 8 * L.length ≤ 100000000) :
    Calls Try.prog 83 #[v, .int .i64 (k : Int)] w fun e w' => e = .returned (.int .i64 ((k + 8 * L.length : Nat) : Int)) ∧ RowM w' base v (marksM k L.length) ∧ w.grownBy w' (ob v L) := by
  rcases hv with ⟨h0, A, c, rfl⟩ | ⟨h0, h⟩
  · have e0 : k + 8 * L.length = k := by omega
    have HR := Lib.hid (show RowM w base (.slice A 0 c) (marksM k L.length) from .inl ⟨by rw [marksM_len]; exact h0, A, c, rfl⟩)
    have HG := Lib.hid (grown_refl w (ob (.slice A 0 c) L))
    rw [e0]
    clear e0 h0
    go_enter Try.func83, Try.ntmps83
    go_wp2
    go_loop [1, 5] (fun x i => i = .int .i64 0 ∧ x = .int .i64 (k : Int)) (fun _ i => 0)
    case atStart => exact ⟨rfl, rfl⟩
    case round =>
      obtain ⟨rfl, rfl⟩ := hrel
      go_wp2
      go_ret
      exact ⟨rfl, HR.out, HG.out⟩
  · refine (mark_items v L base k w h hk hk2).mono ?_
    rintro e w' ⟨rfl, ho, hg⟩
    refine ⟨rfl, .inr ⟨by rw [marksM_len]; exact h0, ho⟩, ?_⟩
    unfold ob
    rw [if_neg (by omega)]
    exact hg

/-- Rows whose first items are of unlike names lie in different blocks. -/
theorem rows_unlike {w : World} {base : Nat} {v v2 : Value} {L L2 : List Im} (h : Ow w base 91 8 encM v L) (h2 : Ow w base 91 8 encM v2 L2) (h0 : 0 < L.length) (h20 : 0 < L2.length) (hne : ∀ x ∈ L, ∀ y ∈ L2, x.i ≠ y.i) : v.ownBlock ≠ v2.ownBlock := by
  intro he
  rcases h.2 with ⟨_, e⟩ | ⟨g, cap, cur, rfl, _, hg, _⟩
  · omega
  rcases h2.2 with ⟨_, e⟩ | ⟨g2, cap2, cur2, rfl, _, hg2, _⟩
  · omega
  simp only [Value.ownBlock, Option.some.injEq] at he
  subst he
  match L, h0, L2, h20 with
  | x :: L, _, y :: L2, _ =>
    have a0 := World.ownsRow.cells h (g := g) rfl 0 (.int .i64 x.i.c) (by simp [encM])
    have a1 := World.ownsRow.cells h (g := g) rfl 1 (.int .i64 x.i.k) (by simp [encM])
    have b0 := World.ownsRow.cells h2 (g := g) rfl 0 (.int .i64 y.i.c) (by simp [encM])
    have b1 := World.ownsRow.cells h2 (g := g) rfl 1 (.int .i64 y.i.k) (by simp [encM])
    rw [a0] at b0
    rw [a1] at b1
    simp only [Option.some.injEq, Value.int.injEq, true_and] at b0 b1
    refine hne x List.mem_cons_self y List.mem_cons_self ?_
    cases hx : x.i; cases hy : y.i
    rw [hx, hy] at b0 b1
    simp only at b0 b1
    rw [b0, b1]

theorem apart_unlike {w : World} {base : Nat} {v : Value} {d : Dc} (h : DcOw w base v d) (hne : ∀ x ∈ d.X, ∀ y ∈ d.P, x.i ≠ y.i) : ApartC v d := by
  obtain ⟨a, b, c, rfl, h1, h2, h3⟩ := h
  intro x y z e h10 h20
  simp only [Value.agg.injEq, Array.mk.injEq, List.cons.injEq, and_true] at e
  obtain ⟨rfl, rfl, rfl⟩ := e
  exact rows_unlike h1 h2 h10 h20 hne

def markDc (k : Nat) (d : Dc) : Dc := ⟨marksM k d.X.length, marksM (k + 8 * d.X.length) d.P.length, marksN (k + 8 * d.X.length + 8 * d.P.length) d.H.length⟩
def markEndC (k : Nat) (d : Dc) : Nat := k + 8 * d.X.length + 8 * d.P.length + 2 * d.H.length
/-- Its blocks lie from lo on and below hi. -/
def SpanC (v : Value) (lo hi : Nat) : Prop := ∀ vx vp vh, v = .agg #[vx, vp, vh] → ∀ g, (vx.ownBlock = some g ∨ vp.ownBlock = some g ∨ vh.ownBlock = some g) → lo ≤ g ∧ g < hi
theorem DcOw.span {w : World} {base : Nat} {v : Value} {d : Dc} (h : DcOw w base v d) : SpanC v base w.heap.size := by
  obtain ⟨vx, vp, vh, rfl, h1, h2, h3⟩ := h
  intro a b c e g hg
  simp only [Value.agg.injEq, Array.mk.injEq, List.cons.injEq, and_true] at e
  obtain ⟨rfl, rfl, rfl⟩ := e
  rcases hg with hg | hg | hg
  · exact h1.lies g hg
  · exact h2.lies g hg
  · exact h3.lies g hg
theorem SpanC.wide {v : Value} {lo hi lo' hi' : Nat} (h : SpanC v lo hi) (h1 : lo' ≤ lo) (h2 : hi ≤ hi') : SpanC v lo' hi' := fun a b c e g hg => by have := h a b c e g hg; omega
theorem DcOw.kept {w w' : World} {base : Nat} {v : Value} {d : Dc} (h : DcOw w base v d) {lo hi : Nat} (hw : Within lo hi w w') (hh : hi ≤ base) : DcOw w' base v d := by
  obtain ⟨vx, vp, vh, rfl, h1, h2, h3⟩ := h
  exact ⟨vx, vp, vh, rfl, h1.kept hw (.inl hh), h2.kept hw (.inl hh), h3.kept hw (.inl hh)⟩
theorem DcAt.kept {w w' : World} {B : Nat} {v : Value} {d : Dc} (h : DcAt w B v d) {lo hi : Nat} (hw : Within lo hi w w') (hh : B ≤ lo) (hz : B ≤ w.heap.size) : DcAt w' B v d := h.below (hw.below hh hz)
def MarkedC (w : World) (k : Nat) (v : Value) (d : Dc) (lo hi : Nat) (e : Ending) (w' : World) : Prop := e = .returned (.int .i64 ((markEndC k d : Nat) : Int)) ∧ DcAt w' w'.heap.size v (markDc k d) ∧ Within lo hi w w'

set_option maxRecDepth 100000 in
set_option maxHeartbeats 4000000 in
theorem mark_doc (v : Value) (d : Dc) (base k lo hi : Nat) (w : World) (hv : DcOw w base v d) (hne : ApartC v d) (hsp : SpanC v lo hi) (hhi : hi ≤ w.heap.size) (hk : 0 < k) (hk2 : markEndC k d ≤ 100000000) :
    Calls Try.prog 25 #[v, .int .i64 (k : Int)] w (MarkedC w k v d lo hi) := by
  unfold markEndC at hk2
  obtain ⟨vx, vp, vh, rfl, hx, hp, hh⟩ := hv
  have hap : 0 < d.X.length → 0 < d.P.length → vx.ownBlock ≠ vp.ownBlock := fun h1 h2 => hne _ _ _ rfl h1 h2
  have HSX := Lib.hid (fun g hg => hsp _ _ _ rfl g (.inl hg)); have HSP := Lib.hid (fun g hg => hsp _ _ _ rfl g (.inr (.inl hg))); have HSH := Lib.hid (fun g hg => hsp _ _ _ rfl g (.inr (.inr hg)))
  have HAP := Lib.hid hap; clear hap hsp hne
  obtain ⟨A1, k1, rfl⟩ := hx.form; obtain ⟨A2, k2, rfl⟩ := hp.form; obtain ⟨A3, k3, rfl⟩ := hh.form
  have hX1 := (RowM.of hx).lift (ball (Below.refl _ _) (.cells #[.slice A1 d.X.length k1, .slice A2 d.P.length k2, .slice A3 d.H.length k3] 29) (Nat.le_refl _))
  have hP1 := (RowM.of hp).lift (ball (Below.refl _ _) (.cells #[.slice A1 d.X.length k1, .slice A2 d.P.length k2, .slice A3 d.H.length k3] 29) (Nat.le_refl _))
  have hH1 := hh.lift (ball (Below.refl _ _) (.cells #[.slice A1 d.X.length k1, .slice A2 d.P.length k2, .slice A3 d.H.length k3] 29) (Nat.le_refl _))
  have HX := Lib.hid hX1; have HP := Lib.hid hP1; have HH := Lib.hid hH1
  clear hx hp hh hX1 hP1 hH1
  have HOB := Lib.hid (fun (L : List Im) (v : Value) g (h : ob v L = some g) => show v.ownBlock = some g by unfold ob at h; split at h; cases h; exact h)
  go_enter Try.func25, Try.ntmps25
  go_wp2_with fail
  refine (mark_row _ d.X base k _ HX.out hk (by omega)).mono ?_
  rintro e w1 ⟨rfl, hr1, hg1⟩
  have HB1 := Lib.hid (show w1.heap[w.heap.size]? = _ from (hg1.block _ (by simp) (fun e => by have := HSX.out _ (HOB.out _ _ _ e.symm); omega)).trans (heap_alloc_new w _))
  have HR1 := Lib.hid hr1
  have HP1 := Lib.hid (HP.out.kept hg1 HAP.out)
  have HH1 := Lib.hid (HX.out.ids HH.out hg1)
  have HW1 := Lib.hid (show Within lo hi w w1 from (Within.of_below (ball (Below.refl _ _) _ (Nat.le_refl _)) lo hi).trans (Within.of_grown hg1 (fun g hg => HSX.out _ (HOB.out _ _ _ hg))))
  have hz1 := hg1.size
  simp only [World.size_alloc] at hz1
  clear hr1 hg1 HX HP HH
  obtain ⟨x0, x1, x2⟩ := box3 HB1.out
  go_wp2_with fail
  refine (mark_row _ d.P base (k + 8 * d.X.length) _ HP1.out (by omega) (by omega)).mono ?_
  rintro e w2 ⟨rfl, hr2, hg2⟩
  have HB2 := Lib.hid (show w2.heap[w.heap.size]? = _ from (hg2.block _ (block_lt HB1.out) (fun e => by have := HSP.out _ (HOB.out _ _ _ e.symm); omega)).trans HB1.out)
  have HR2 := Lib.hid (HR1.out.kept hg2 (fun h1 h2 => by rw [marksM_len] at h2; exact (HAP.out h2 h1).symm))
  have HQ2 := Lib.hid hr2
  have HH2 := Lib.hid (HP1.out.ids HH1.out hg2)
  have HW2 := Lib.hid (HW1.out.trans (Within.of_grown hg2 (fun g hg => HSP.out _ (HOB.out _ _ _ hg))))
  have hz2 := hg2.size
  clear hr2 hg2 x0 x1 x2 HR1 HP1 HH1 HB1 HW1
  obtain ⟨x0, x1, x2⟩ := box3 HB2.out
  go_wp2_with fail
  refine (mark_ids _ d.H base (k + 8 * d.X.length + 8 * d.P.length) _ HH2.out (by omega) (by omega)).mono ?_
  rintro e w3 ⟨rfl, ho3, hg3⟩
  have HX3 := Lib.hid (show RowM w3 base (.slice A1 d.X.length k1) (marksM k d.X.length) from by
    rcases HR2.out with h | ⟨h0, h⟩
    · exact .inl h
    · exact .inr ⟨h0, World.ownsRow.kept h hg3 (h.apart HH2.out (by decide))⟩)
  have HP3 := Lib.hid (show RowM w3 base (.slice A2 d.P.length k2) (marksM (k + 8 * d.X.length) d.P.length) from by
    rcases HQ2.out with h | ⟨h0, h⟩
    · exact .inl h
    · exact .inr ⟨h0, World.ownsRow.kept h hg3 (h.apart HH2.out (by decide))⟩)
  have HH3 := Lib.hid ho3
  have HW3 := Lib.hid (HW2.out.trans (Within.of_grown hg3 (fun g hg => HSH.out _ hg)))
  clear ho3 hg3 x0 x1 x2
  go_wp2
  go_ret
  exact ⟨rfl, ⟨_, _, _, rfl, HX3.out.sl, HP3.out.sl, HH3.out.sl encN_len⟩, HW3.out⟩

set_option maxRecDepth 100000 in
set_option maxHeartbeats 4000000 in
theorem held_doc (v : Value) (d : Dc) (k : Nat) (w : World) (hv : DcAt w w.heap.size v (markDc k d)) (hk : 0 < k) (hk2 : markEndC k d ≤ 100000000) :
    Calls Try.prog 85 #[v, .int .i64 (k : Int)] w (Holds w (markEndC k d)) := by
  unfold markEndC at hk2
  obtain ⟨vx, vp, vh, rfl, hx, hp, hh⟩ := hv
  simp only [markDc] at hx hp hh
  have HX := Lib.hid (fun W (hb : Below w.heap.size w W) => held_items vx k d.X.length W ((hx.below hb).more hb.size) hk (by omega))
  have HP := Lib.hid (fun W (hb : Below w.heap.size w W) => held_items vp (k + 8 * d.X.length) d.P.length W ((hp.below hb).more hb.size) (by omega) (by omega))
  have HH := Lib.hid (fun W (hb : Below w.heap.size w W) => held_ids vh (k + 8 * d.X.length + 8 * d.P.length) d.H.length W ((hh.below hb).more hb.size) (by omega) (by omega))
  have HL := Lib.hid ((Lg.start w).alloc (.cells #[vx, vp, vh] 29))
  obtain ⟨A1, k1, rfl⟩ := hx.form; obtain ⟨A2, k2, rfl⟩ := hp.form; obtain ⟨A3, k3, rfl⟩ := hh.form
  clear hx hp hh
  have n1 : ¬ ((k + 8 * d.X.length : Nat) : Int) < 0 := by omega
  have n2 : ¬ ((k + 8 * d.X.length + 8 * d.P.length : Nat) : Int) < 0 := by omega
  have n3 : ¬ ((k + 8 * d.X.length + 8 * d.P.length + 2 * d.H.length : Nat) : Int) < 0 := by omega
  go_enter Try.func85, Try.ntmps85
  go_wp2_with fail
  refine (HX.out _ HL.out.bel).mono ?_
  rintro e w1 ⟨rfl, hb1⟩
  replace HL := Lib.hid (HL.out.lift hb1); clear hb1
  obtain ⟨x0, x1, x2⟩ := box3 (HL.out.blk _ List.mem_cons_self)
  go_wp2_with fail
  refine (HP.out _ HL.out.bel).mono ?_
  rintro e w2 ⟨rfl, hb2⟩
  replace HL := Lib.hid (HL.out.lift hb2); clear hb2 x0 x1 x2
  obtain ⟨x0, x1, x2⟩ := box3 (HL.out.blk _ List.mem_cons_self)
  go_wp2_with fail
  refine (HH.out _ HL.out.bel).mono ?_
  rintro e w3 ⟨rfl, hb3⟩
  replace HL := Lib.hid (HL.out.lift hb3); clear hb3 x0 x1 x2
  go_wp2
  go_ret
  exact ⟨rfl, HL.out.bel⟩

/-- An answer: a doc and a code. -/
structure Oc where
  dc : Dc
  code : Int
def OcAt (w : World) (B : Nat) (v : Value) (o : Oc) : Prop := ∃ vx vp vh, v = .agg #[vx, vp, vh, .int .i64 o.code] ∧ DcAt w B (.agg #[vx, vp, vh]) o.dc
def OcOw (w : World) (base : Nat) (v : Value) (o : Oc) : Prop := ∃ vx vp vh, v = .agg #[vx, vp, vh, .int .i64 o.code] ∧ DcOw w base (.agg #[vx, vp, vh]) o.dc
def OwnsOc (w : World) (o : Oc) (e : Ending) (w' : World) : Prop := ∃ v, e = .returned v ∧ OcOw w' w.heap.size v o ∧ Below w.heap.size w w'
def illOc (c : Int) : Oc := ⟨⟨[], [], []⟩, c⟩
theorem dc_none (w : World) (base : Nat) : DcOw w base (.agg #[.slice none 0 0, .slice none 0 0, .slice none 0 0]) ⟨[], [], []⟩ := ⟨_, _, _, rfl, World.ownsRow_nil w base _ _, World.ownsRow_nil w base _ _, World.ownsRow_nil w base _ _⟩
theorem oc_ill (w : World) (base : Nat) (c : Int) : OcOw w base (.agg #[.slice none 0 0, .slice none 0 0, .slice none 0 0, .int .i64 c]) (illOc c) := ⟨_, _, _, rfl, dc_none w base⟩
theorem DcOw.forms {w : World} {base : Nat} {vx vp vh : Value} {d : Dc} (h : DcOw w base (.agg #[vx, vp, vh]) d) : ∃ A1 c1 A2 c2 A3 c3, vx = .slice A1 d.X.length c1 ∧ vp = .slice A2 d.P.length c2 ∧ vh = .slice A3 d.H.length c3 := by
  obtain ⟨a, b, c, e, h1, h2, h3⟩ := h
  simp only [Value.agg.injEq, Array.mk.injEq, List.cons.injEq, and_true] at e
  obtain ⟨rfl, rfl, rfl⟩ := e
  obtain ⟨A1, c1, e1⟩ := h1.form
  obtain ⟨A2, c2, e2⟩ := h2.form
  obtain ⟨A3, c3, e3⟩ := h3.form
  exact ⟨A1, c1, A2, c2, A3, c3, e1, e2, e3⟩
theorem OwnsOc.parts {w : World} {o : Oc} {e : Ending} {w' : World} (h : OwnsOc w o e w') : ∃ A1 c1 A2 c2 A3 c3, e = .returned (.agg #[.slice A1 o.dc.X.length c1, .slice A2 o.dc.P.length c2, .slice A3 o.dc.H.length c3, .int .i64 o.code]) ∧
    DcOw w' w.heap.size (.agg #[.slice A1 o.dc.X.length c1, .slice A2 o.dc.P.length c2, .slice A3 o.dc.H.length c3]) o.dc ∧ Below w.heap.size w w' := by
  obtain ⟨v, rfl, ⟨vx, vp, vh, rfl, h1⟩, hb⟩ := h
  obtain ⟨A1, c1, A2, c2, A3, c3, rfl, rfl, rfl⟩ := h1.forms
  exact ⟨A1, c1, A2, c2, A3, c3, rfl, h1, hb⟩

set_option maxRecDepth 100000 in
theorem mark_out (vx vp vh : Value) (c : Int) (d : Dc) (base k lo hi : Nat) (w : World) (hv : DcOw w base (.agg #[vx, vp, vh]) d) (hne : ApartC (.agg #[vx, vp, vh]) d) (hsp : SpanC (.agg #[vx, vp, vh]) lo hi) (hhi : hi ≤ w.heap.size) (hk : 0 < k) (hk2 : markEndC k d ≤ 100000000) :
    Calls Try.prog 26 #[.agg #[vx, vp, vh, .int .i64 c], .int .i64 (k : Int)] w (MarkedC w k (.agg #[vx, vp, vh]) d lo hi) := by
  have HM := Lib.hid (mark_doc (.agg #[vx, vp, vh]) d base k lo hi (w.alloc (.cells #[vx, vp, vh, .int .i64 c] 31)) (hv.lift (ball (Below.refl _ _) _ (Nat.le_refl _))) hne hsp (by simp; omega) hk hk2)
  obtain ⟨A1, c1, A2, c2, A3, c3, rfl, rfl, rfl⟩ := hv.forms
  clear hv hsp hne
  go_enter Try.func26, Try.ntmps26
  go_wp2_with fail
  refine (HM.out).mono ?_
  rintro e w1 ⟨rfl, ha, hw⟩
  have HA := Lib.hid ha
  have HW := Lib.hid ((Within.of_below (ball (Below.refl w.heap.size w) _ (Nat.le_refl _)) lo hi).trans hw)
  clear ha hw
  go_wp2
  go_ret
  exact ⟨rfl, HA.out, HW.out⟩

set_option maxRecDepth 100000 in
theorem held_out (vx vp vh : Value) (c : Int) (d : Dc) (k : Nat) (w : World) (hv : DcAt w w.heap.size (.agg #[vx, vp, vh]) (markDc k d)) (hk : 0 < k) (hk2 : markEndC k d ≤ 100000000) :
    Calls Try.prog 27 #[.agg #[vx, vp, vh, .int .i64 c], .int .i64 (k : Int)] w (Holds w (markEndC k d)) := by
  have HM := Lib.hid (held_doc (.agg #[vx, vp, vh]) d k (w.alloc (.cells #[vx, vp, vh, .int .i64 c] 31)) (hv.up _) hk hk2)
  obtain ⟨a1, a2, a3, e, h1, h2, h3⟩ := hv
  simp only [Value.agg.injEq, Array.mk.injEq, List.cons.injEq, and_true] at e
  obtain ⟨rfl, rfl, rfl⟩ := e
  obtain ⟨A1, k1, rfl⟩ := h1.form; obtain ⟨A2, k2, rfl⟩ := h2.form; obtain ⟨A3, k3, rfl⟩ := h3.form
  clear h1 h2 h3
  obtain ⟨m, hm⟩ : ∃ m, m = markEndC k d := ⟨_, rfl⟩
  rw [← hm] at HM hk2
  rw [← hm]
  clear hm
  have hn : ¬ ((m : Nat) : Int) < 0 := by omega
  go_enter Try.func27, Try.ntmps27
  go_wp2_with fail
  refine (HM.out).mono ?_
  rintro e w1 ⟨rfl, hb⟩
  have HB := Lib.hid (below_alloc_call (Below.refl w.heap.size w) (Nat.le_refl _) hb)
  clear hb
  go_wp2
  go_ret
  exact ⟨rfl, HB.out⟩

set_option maxRecDepth 100000 in
set_option maxHeartbeats 4000000 in
theorem eq_out (v1 v2 : Value) (o : Oc) (w : World) (h1 : OcAt w w.heap.size v1 o) (h2 : OcAt w w.heap.size v2 o) (hX : o.dc.X.length ≤ 140737488351232) (hP : o.dc.P.length ≤ 140737488351232) (hH : o.dc.H.length ≤ 140737488351232) :
    Calls Try.prog 23 #[v1, v2] w (Yes w) := by
  obtain ⟨vx, vp, vh, rfl, x1⟩ := h1
  obtain ⟨ux, up, uh, rfl, x2⟩ := h2
  have HD := Lib.hid (fun W (hb : Below w.heap.size w W) => eq_doc _ _ o.dc W (x1.lift hb) (x2.lift hb) hX hP hH)
  have hc : (o.code != o.code) = false := by simp
  have hL := ((Lg.start w).alloc (.cells #[vx, vp, vh, .int .i64 o.code] 31)).alloc (.cells #[ux, up, uh, .int .i64 o.code] 31)
  simp only [World.size_alloc] at hL
  have HL := Lib.hid hL; clear hL
  obtain ⟨a1, a2, a3, e, p1, p2, p3⟩ := x1
  simp only [Value.agg.injEq, Array.mk.injEq, List.cons.injEq, and_true] at e
  obtain ⟨rfl, rfl, rfl⟩ := e
  obtain ⟨b1, b2, b3, e, q1, q2, q3⟩ := x2
  simp only [Value.agg.injEq, Array.mk.injEq, List.cons.injEq, and_true] at e
  obtain ⟨rfl, rfl, rfl⟩ := e
  obtain ⟨A1, k1, rfl⟩ := p1.form; obtain ⟨A2, k2, rfl⟩ := p2.form; obtain ⟨A3, k3, rfl⟩ := p3.form
  obtain ⟨B1, l1, rfl⟩ := q1.form; obtain ⟨B2, l2, rfl⟩ := q2.form; obtain ⟨B3, l3, rfl⟩ := q3.form
  clear p1 p2 p3 q1 q2 q3
  go_enter Try.func23, Try.ntmps23
  go_wp2_with fail
  refine (HD.out _ HL.out.bel).mono ?_
  rintro e w1 ⟨rfl, hb⟩
  replace HL := Lib.hid (HL.out.lift hb); clear hb
  obtain ⟨c0, c1, c2, c3⟩ := box4c (HL.out.blk _ List.mem_cons_self)
  obtain ⟨d0, d1, d2, d3⟩ := box4c (HL.out.blk _ (List.mem_cons_of_mem _ List.mem_cons_self))
  go_wp2
  go_ret
  exact ⟨rfl, HL.out.bel⟩

end Go.Proofs.Ytaggmcdfggmlhaa
