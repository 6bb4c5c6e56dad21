/-
  The laws' own comparison lwArea; the ledger of the laws of the area.
-/
import Derived.Test.YthchlfllcnlmjaaGreatDoorFdL
import Derived.Test.YthchlfllcnlmjaaGreatDoorAreaOut
/-! Contract of the laws' own comparison lwArea, at two values that read alike. -/
namespace Go.Proofs.YthchlfllcnlmjaaGreatDoor
open Go.ChangeShapes Go.WideShapes Go.ChangeAt Go.RowKit

set_option maxRecDepth 100000 in
set_option maxHeartbeats 1000000 in
theorem lw_area (s1 p1 s2 p2 : Value) (d : Dk) (t : ByteArray) (g c : Int) (w : World) (h1 : DkAt w w.heap.size (.agg #[s1, p1]) d) (h2 : DkAt w w.heap.size (.agg #[s2, p2]) d) (hS : d.S.length ≤ 140737488351232) (hP : d.P.length ≤ 140737488351232) :
    Calls Tryz.prog 13 #[.agg #[s1, p1, .string t, .int .i64 g, .int .i64 c], .agg #[s2, p2, .string t, .int .i64 g, .int .i64 c]] w (Yes w) := by
  have H1 := Lib.hid (fun W (hb : Below w.heap.size w W) => lw_disk s1 p1 s2 p2 d W ((h1.below hb).more hb.size) ((h2.below hb).more hb.size) hS hP)
  have hcc : (c == c) = true := by simp
  have hgg : (g == g) = true := by simp
  have htt := beq_yes t
  clear h1 h2 hS hP
  go_enter Tryz.func13, Tryz.ntmps13
  go_wp2_with fail
  refine (H1.out _ (((Below.refl _ _).alloc (Nat.le_refl _) _).alloc (by simp) _)).mono ?_
  rintro e w1 ⟨rfl, hb1⟩
  have HB := Lib.hid (below_call (((Below.refl w.heap.size w).alloc (Nat.le_refl _) _).alloc (by simp) _) (by simp only [World.size_alloc]; omega) hb1)
  clear hb1
  go_wp2
  go_ret
  exact ⟨rfl, HB.out⟩

end Go.Proofs.YthchlfllcnlmjaaGreatDoor

/-! The ledger of the laws of the area, its boxes of five cells; the calm law over it; an answer told ahead. -/
namespace Go.Proofs.YthchlfllcnlmjaaGreatDoor
open Go.ChangeShapes Go.WideShapes Go.ChangeAt Go.RowKit

theorem Fd.b5 {w W : World} {cv1 cv2 : Value} {l1 l2 : Nat} {L : List (Nat × Obj)} {D : List (Value × Dk)} {K : List (Value × List Int)} (h : Fd w W cv1 l1 cv2 l2 L D K) {b : Nat} {x0 x1 x2 x3 x4 : Value} {T : TypeId} (hm : (b, Obj.cells #[x0, x1, x2, x3, x4] T (0, 0)) ∈ L) :
    W.cell? ⟨b, 0, none⟩ = some x0 ∧ W.cell? ⟨b, 1, none⟩ = some x1 ∧ W.cell? ⟨b, 2, none⟩ = some x2 ∧ W.cell? ⟨b, 3, none⟩ = some x3 ∧ W.cell? ⟨b, 4, none⟩ = some x4 := box5 (h.blk _ hm)
theorem wp_region_calm_fd {P : Program} {id : Nat} {Q : Exit → Act → World → Prop} {a : Act} {w W : World} {l : List Oper} {cv1 cv2 : Value} {l1 l2 : Nat} {L : List (Nat × Obj)} {D : List (Value × Dk)} {K : List (Value × List Int)} (N : List (Nat × (Value → Prop) × (Value → World → Prop))) (hm : P.follows .mixedOrders = true) (hB : lexHead0 .any l.toArray = true)
    (hN : ∀ p ∈ N, ∀ v, Mono (p.2.2 v)) (h0 : Fd w W cv1 l1 cv2 l2 L D K)
    (h : wpCalm P l.toArray .any (fun W => Fd w W cv1 l1 cv2 l2 L D K) N (fun a' F => ∀ w', Fd w w' cv1 l1 cv2 l2 L D K → (∀ k, F k w') → Q .normal a' w') l 0 a noF) : (Code.region id l.toArray true).wp P Q a W :=
  wp_region_calm (fun W => Fd w W cv1 l1 cv2 l2 L D K) N hm hB (fun _ _ hb h => h.lift hb) (monoN_of hN) h0.drew h
/-- A value that tells the answer o. -/
def AoIs (o : Ao) (u : Value) : Prop := ∃ s p : Value, u = .agg #[s, p, .string o.text, .int .i64 o.gen, .int .i64 o.code]
def AoAt (o : Ao) (u : Value) (W : World) : Prop := ∃ s p : Value, u = .agg #[s, p, .string o.text, .int .i64 o.gen, .int .i64 o.code] ∧ DkAt W W.heap.size (.agg #[s, p]) o.dk
theorem AoAt.mono (o : Ao) (u : Value) : Mono (AoAt o u) := by
  rintro W W' hb ⟨s, p, e, h⟩
  exact ⟨s, p, e, (h.below hb).more hb.size⟩
theorem ao_told {W W' : World} {o : Ao} {e : Ending} (h : OwnsAo W o e W') : ∃ u, e = .returned u ∧ Below W.heap.size W W' ∧ AoIs o u ∧ AoAt o u W' := by
  obtain ⟨s, p, rfl, ho, hb⟩ := h.told
  exact ⟨_, rfl, hb, ⟨_, _, rfl⟩, _, _, rfl, ho.at_⟩
theorem ao_at {o : Ao} {s p : Value} {W : World} (h : AoAt o (.agg #[s, p, .string o.text, .int .i64 o.gen, .int .i64 o.code]) W) : DkAt W W.heap.size (.agg #[s, p]) o.dk := by
  obtain ⟨s', p', e, h⟩ := h
  simp only [Value.agg.injEq, Array.mk.injEq, List.cons.injEq, and_true] at e
  obtain ⟨rfl, rfl⟩ := e
  exact h

end Go.Proofs.YthchlfllcnlmjaaGreatDoor
