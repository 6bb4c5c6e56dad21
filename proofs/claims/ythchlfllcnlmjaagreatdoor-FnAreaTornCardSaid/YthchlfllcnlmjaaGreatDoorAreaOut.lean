/-
  An area's answer: how it lies in memory; contracts of its comparison and of its marks, and of the model's l03Ill.
-/
import Derived.Test.YthchlfllcnlmjaaGreatDoorBase2
import Derived.Test.YthchlfllcnlmjaaGreatDoorMarkD
namespace Go.Proofs.YthchlfllcnlmjaaGreatDoor
open Go.ChangeShapes Go.WideShapes Go.ChangeAt Go.RowKit

structure Ao where
  dk : Dk
  text : ByteArray
  gen : Int
  code : Int
def AoOw (w : World) (base : Nat) (v : Value) (o : Ao) : Prop := ∃ vs vp, v = .agg #[vs, vp, .string o.text, .int .i64 o.gen, .int .i64 o.code] ∧ DkOw w base (.agg #[vs, vp]) o.dk
def OwnsAo (w : World) (o : Ao) (e : Ending) (w' : World) : Prop := ∃ v, e = .returned v ∧ AoOw w' w.heap.size v o ∧ Below w.heap.size w w'
/-- Nothing but a code. -/
def illAo (c : Int) : Ao := ⟨⟨[], []⟩, ⟨#[]⟩, 0, c⟩
theorem ao_ill (w : World) (base : Nat) (c : Int) : AoOw w base (.agg #[.slice none 0 0, .slice none 0 0, .string ⟨#[]⟩, .int .i64 0, .int .i64 c]) (illAo c) := ⟨_, _, rfl, dk_none w base⟩
/-- An answer, its parts named. -/
theorem OwnsAo.parts {w : World} {o : Ao} {e : Ending} {w' : World} (h : OwnsAo w o e w') : ∃ A1 c1 A2 c2, e = .returned (.agg #[.slice A1 o.dk.S.length c1, .slice A2 o.dk.P.length c2, .string o.text, .int .i64 o.gen, .int .i64 o.code]) ∧ DkOw w' w.heap.size (.agg #[.slice A1 o.dk.S.length c1, .slice A2 o.dk.P.length c2]) o.dk ∧ Below w.heap.size w w' := by
  obtain ⟨v, rfl, ⟨vs, vp, rfl, hd⟩, hb⟩ := h
  obtain ⟨A1, c1, A2, c2, rfl, rfl⟩ := hd.forms
  exact ⟨A1, c1, A2, c2, rfl, hd, hb⟩
theorem OwnsAo.told {w : World} {o : Ao} {e : Ending} {w' : World} (h : OwnsAo w o e w') : ∃ s p, e = .returned (.agg #[s, p, .string o.text, .int .i64 o.gen, .int .i64 o.code]) ∧ DkOw w' w.heap.size (.agg #[s, p]) o.dk ∧ Below w.heap.size w w' := by
  obtain ⟨A1, c1, A2, c2, h1, h2, h3⟩ := h.parts
  exact ⟨_, _, h1, h2, h3⟩
theorem box5 {w : World} {b : Nat} {x0 x1 x2 x3 x4 : Value} {T : TypeId} (h : w.heap[b]? = some (.cells #[x0, x1, x2, x3, x4] T (0, 0))) : w.cell? ⟨b, 0, none⟩ = some x0 ∧ w.cell? ⟨b, 1, none⟩ = some x1 ∧ w.cell? ⟨b, 2, none⟩ = some x2 ∧ w.cell? ⟨b, 3, none⟩ = some x3 ∧ w.cell? ⟨b, 4, none⟩ = some x4 := by
  refine ⟨?_, ?_, ?_, ?_, ?_⟩ <;> simp [World.cell?, h]

theorem spec_illao (c : Int) (w : World) : Calls Tryz.prog 46 #[.int .i64 c] w (OwnsAo w (illAo c)) := by
  go_enter Tryz.func46, Tryz.ntmps46
  go_wp2
  exact bodyPost_ret (v := .agg #[.slice none 0 0, .slice none 0 0, .string ⟨#[]⟩, .int .i64 0, .int .i64 c]) (by simp [results, Tryz.results46, go_sem]) rfl ⟨_, rfl, ao_ill _ _ _, (Below.refl _ _).alloc (Nat.le_refl _) _⟩

set_option maxRecDepth 100000 in
theorem eq_areaout (s1 p1 s2 p2 : Value) (d : Dk) (t : ByteArray) (g c : Int) (w : World) (h1 : DkAt w w.heap.size (.agg #[s1, p1]) d) (h2 : DkAt w w.heap.size (.agg #[s2, p2]) d) (hS : d.S.length ≤ 140737488351232) (hP : d.P.length ≤ 140737488351232) :
    Calls Tryz.prog 24 #[.agg #[s1, p1, .string t, .int .i64 g, .int .i64 c], .agg #[s2, p2, .string t, .int .i64 g, .int .i64 c]] w (Yes w) := by
  have H1 := Lib.hid (fun W (hb : Below w.heap.size w W) => eq_disk (.agg #[s1, p1]) (.agg #[s2, p2]) d W ((h1.below hb).more hb.size) ((h2.below hb).more hb.size) hS hP)
  have hq := beq_yes t
  have hn : (c != c) = false := by simp
  have hn' : (g != g) = false := by simp
  clear h1 h2
  go_enter Tryz.func24, Tryz.ntmps24
  go_wp2_with fail
  refine (H1.out _ (((Below.refl _ _).alloc (Nat.le_refl _) _).alloc (by simp) _)).mono ?_
  rintro e w1 ⟨rfl, hb1⟩
  obtain ⟨hc, hf⟩ := bcell hb1
  have HB := Lib.hid (below_call (((Below.refl w.heap.size w).alloc (Nat.le_refl _) _).alloc (by simp) _) (by simp only [World.size_alloc]; omega) hb1)
  clear hb1
  go_wp2
  go_ret
  exact ⟨rfl, HB.out⟩

set_option maxRecDepth 100000 in
theorem mark_areaout1 (vs vp : Value) (t : ByteArray) (g c : Int) (d : Dk) (base lo hi : Nat) (w : World) (hv : DkOw w base (.agg #[vs, vp]) d) (hk2 : markEnd 1 d ≤ 100000000) (hs : Span (.agg #[vs, vp]) lo hi) :
    Calls Tryz.prog 27 #[.agg #[vs, vp, .string t, .int .i64 g, .int .i64 c], .int .i64 1] w (MarkedDk w base 1 (.agg #[vs, vp]) d lo hi) := by
  have H := Lib.hid (fun W (hb : Below w.heap.size w W) => mark_disk1 (.agg #[vs, vp]) d base lo hi W (hv.lift hb) hk2 hs)
  clear hv hs
  go_enter Tryz.func27, Tryz.ntmps27
  go_wp2_with fail
  refine (H.out _ ((Below.refl _ _).alloc (Nat.le_refl _) _)).mono ?_
  intro e w1 h1
  obtain ⟨r, hr, rfl, ho, hw⟩ := h1.back
  have HR := Lib.hid hr; have HO := Lib.hid ho; have HW := Lib.hid hw
  clear h1 hr ho hw
  go_wp2
  go_ret
  exact ⟨by rw [HR.out]; rfl, HO.out, (Within.of_below ((Below.refl _ w).alloc (Nat.le_refl _) _) lo hi).trans HW.out⟩

set_option maxRecDepth 100000 in
theorem held_areaout1 (vs vp : Value) (t : ByteArray) (g c : Int) (d : Dk) (w : World) (hv : DkAt w w.heap.size (.agg #[vs, vp]) (markDk 1 d)) (hk2 : markEnd 1 d ≤ 100000000) :
    Calls Tryz.prog 28 #[.agg #[vs, vp, .string t, .int .i64 g, .int .i64 c], .int .i64 1] w (Holds w (markEnd 1 d)) := by
  have H := Lib.hid (fun W (hb : Below w.heap.size w W) => held_disk1 (.agg #[vs, vp]) d W ((hv.below hb).more hb.size) hk2)
  clear hv
  go_enter Tryz.func28, Tryz.ntmps28
  go_wp2_with fail
  refine (H.out _ ((Below.refl _ _).alloc (Nat.le_refl _) _)).mono ?_
  rintro e w1 ⟨rfl, hb1⟩
  have HB1 := Lib.hid (below_alloc_call (Below.refl _ w) (Nat.le_refl _) hb1)
  clear hb1
  go_wp2
  go_ret
  exact ⟨rfl, HB1.out⟩

end Go.Proofs.YthchlfllcnlmjaaGreatDoor
