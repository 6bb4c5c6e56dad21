/-
  A disk's answer: how it lies in memory; contracts of its comparison and of its marks, and of the model's l02Ill.
-/
import Derived.Test.YtjpcpdapbhmgiaaMarkD
namespace Go.Proofs.Ytjpcpdapbhmgiaa
open Go.ChangeShapes Go.WideShapes Go.ChangeAt Go.RowKit

structure Do where
  dk : Dk
  data : ByteArray
  code : Int
def DoAt (w : World) (B : Nat) (v : Value) (o : Do) : Prop := ∃ vs vp, v = .agg #[vs, vp, .string o.data, .int .i64 o.code] ∧ DkAt w B (.agg #[vs, vp]) o.dk
def DoOw (w : World) (base : Nat) (v : Value) (o : Do) : Prop := ∃ vs vp, v = .agg #[vs, vp, .string o.data, .int .i64 o.code] ∧ DkOw w base (.agg #[vs, vp]) o.dk
def OwnsDo (w : World) (o : Do) (e : Ending) (w' : World) : Prop := ∃ v, e = .returned v ∧ DoOw w' w.heap.size v o ∧ Below w.heap.size w w'
/-- Nothing but a code. -/
def illDo (c : Int) : Do := ⟨⟨[], []⟩, ⟨#[]⟩, c⟩

theorem dk_none (w : World) (base : Nat) : DkOw w base (.agg #[.slice none 0 0, .slice none 0 0]) ⟨[], []⟩ := ⟨_, _, rfl, World.ownsRow_nil w base _ _, World.ownsRow_nil w base _ _⟩
theorem do_ill (w : World) (base : Nat) (c : Int) : DoOw w base (.agg #[.slice none 0 0, .slice none 0 0, .string ⟨#[]⟩, .int .i64 c]) (illDo c) := ⟨_, _, rfl, dk_none w base⟩

theorem DkOw.forms {w : World} {base : Nat} {vs vp : Value} {d : Dk} (h : DkOw w base (.agg #[vs, vp]) d) : ∃ A1 c1 A2 c2, vs = .slice A1 d.S.length c1 ∧ vp = .slice A2 d.P.length c2 := by
  obtain ⟨a, b, e, h1, h2⟩ := h
  simp only [Value.agg.injEq, Array.mk.injEq, List.cons.injEq, and_true] at e
  obtain ⟨rfl, rfl⟩ := e
  obtain ⟨A1, c1, rfl⟩ := h1.form
  obtain ⟨A2, c2, rfl⟩ := h2.form
  exact ⟨A1, c1, A2, c2, rfl, rfl⟩
/-- An answer, its parts named. -/
theorem OwnsDo.parts {w : World} {o : Do} {e : Ending} {w' : World} (h : OwnsDo w o e w') : ∃ A1 c1 A2 c2, e = .returned (.agg #[.slice A1 o.dk.S.length c1, .slice A2 o.dk.P.length c2, .string o.data, .int .i64 o.code]) ∧ DkOw w' w.heap.size (.agg #[.slice A1 o.dk.S.length c1, .slice A2 o.dk.P.length c2]) o.dk ∧ Below w.heap.size w w' := by
  obtain ⟨v, rfl, ⟨vs, vp, rfl, hd⟩, hb⟩ := h
  obtain ⟨A1, c1, A2, c2, rfl, rfl⟩ := hd.forms
  exact ⟨A1, c1, A2, c2, rfl, hd, hb⟩
theorem DkOw.far {w : World} {base : Nat} {v : Value} {d : Dk} (h : DkOw w base v d) {p : Addr} (hp : p.block < base) (u : Value) : DkOw (w.setCell p u) base v d := by
  obtain ⟨vs, vp, rfl, h1, h2⟩ := h
  exact ⟨vs, vp, rfl, h1.far hp u, h2.far hp u⟩
theorem DkOw.alloc {w : World} {base : Nat} {v : Value} {d : Dk} (h : DkOw w base v d) (o : Obj) : DkOw (w.alloc o) base v d := by
  obtain ⟨vs, vp, rfl, h1, h2⟩ := h
  exact ⟨vs, vp, rfl, h1.alloc o, h2.alloc o⟩

theorem box4 {w : World} {b : Nat} {x0 x1 x2 x3 : Value} {T : TypeId} (h : w.heap[b]? = some (.cells #[x0, x1, x2, x3] T (0, 0))) : w.cell? ⟨b, 0, none⟩ = some x0 ∧ w.cell? ⟨b, 1, none⟩ = some x1 ∧ w.cell? ⟨b, 2, none⟩ = some x2 ∧ w.cell? ⟨b, 3, none⟩ = some x3 := by
  refine ⟨?_, ?_, ?_, ?_⟩ <;> simp [World.cell?, h]

theorem spec_ill (c : Int) (w : World) : Calls Try.prog 53 #[.int .i64 c] w fun e w' => e = .returned (.agg #[.slice none 0 0, .slice none 0 0, .string ⟨#[]⟩, .int .i64 c]) ∧ Below w.heap.size w w' := by
  go_enter Try.func53, Try.ntmps53
  go_wp2
  exact bodyPost_ret (v := .agg #[.slice none 0 0, .slice none 0 0, .string ⟨#[]⟩, .int .i64 c]) (by simp [results, Try.results53, go_sem]) rfl ⟨rfl, (Below.refl _ _).alloc (Nat.le_refl _) _⟩

set_option maxRecDepth 100000 in
theorem eq_diskout (s1 p1 s2 p2 : Value) (d : Dk) (t : ByteArray) (c : Int) (w : World) (h1 : DkAt w w.heap.size (.agg #[s1, p1]) d) (h2 : DkAt w w.heap.size (.agg #[s2, p2]) d) (hS : d.S.length ≤ 140737488351232) (hP : d.P.length ≤ 140737488351232) :
    Calls Try.prog 33 #[.agg #[s1, p1, .string t, .int .i64 c], .agg #[s2, p2, .string t, .int .i64 c]] w (Yes w) := by
  have H1 := Lib.hid (fun W (hb : Below w.heap.size w W) => eq_disk (.agg #[s1, p1]) (.agg #[s2, p2]) d W ((h1.below hb).more hb.size) ((h2.below hb).more hb.size) hS hP)
  have hq := beq_yes t
  have hn : (c != c) = false := by simp
  clear h1 h2
  go_enter Try.func33, Try.ntmps33
  go_wp2_with fail
  refine (H1.out _ (((Below.refl _ _).alloc (Nat.le_refl _) _).alloc (by simp) _)).mono ?_
  rintro e w1 ⟨rfl, hb1⟩
  obtain ⟨hc, hf⟩ := bcell hb1
  have HB := Lib.hid (below_call (((Below.refl w.heap.size w).alloc (Nat.le_refl _) _).alloc (by simp) _) (by simp only [World.size_alloc]; omega) hb1)
  clear hb1
  go_wp2
  go_ret
  exact ⟨rfl, HB.out⟩

set_option maxRecDepth 100000 in
theorem mark_diskout1 (vs vp : Value) (t : ByteArray) (c : Int) (d : Dk) (base lo hi : Nat) (w : World) (hv : DkOw w base (.agg #[vs, vp]) d) (hk2 : markEnd 1 d ≤ 100000000) (hs : Span (.agg #[vs, vp]) lo hi) :
    Calls Try.prog 34 #[.agg #[vs, vp, .string t, .int .i64 c], .int .i64 1] w (MarkedDk w base 1 (.agg #[vs, vp]) d lo hi) := by
  have H := Lib.hid (fun W (hb : Below w.heap.size w W) => mark_disk1 (.agg #[vs, vp]) d base lo hi W (hv.lift hb) hk2 hs)
  clear hv hs
  go_enter Try.func34, Try.ntmps34
  go_wp2_with fail
  refine (H.out _ ((Below.refl _ _).alloc (Nat.le_refl _) _)).mono ?_
  intro e w1 h1
  obtain ⟨r, hr, rfl, ho, hw⟩ := h1.back
  have HR := Lib.hid hr; have HO := Lib.hid ho; have HW := Lib.hid hw
  clear h1 hr ho hw
  go_wp2
  go_ret
  exact ⟨by rw [HR.out]; rfl, HO.out, (Within.of_below ((Below.refl _ w).alloc (Nat.le_refl _) _) lo hi).trans HW.out⟩

set_option maxRecDepth 100000 in
theorem held_diskout1 (vs vp : Value) (t : ByteArray) (c : Int) (d : Dk) (w : World) (hv : DkAt w w.heap.size (.agg #[vs, vp]) (markDk 1 d)) (hk2 : markEnd 1 d ≤ 100000000) :
    Calls Try.prog 35 #[.agg #[vs, vp, .string t, .int .i64 c], .int .i64 1] w (Holds w (markEnd 1 d)) := by
  have H := Lib.hid (fun W (hb : Below w.heap.size w W) => held_disk1 (.agg #[vs, vp]) d W ((hv.below hb).more hb.size) hk2)
  clear hv
  go_enter Try.func35, Try.ntmps35
  go_wp2_with fail
  refine (H.out _ ((Below.refl _ _).alloc (Nat.le_refl _) _)).mono ?_
  rintro e w1 ⟨rfl, hb1⟩
  have HB1 := Lib.hid (below_alloc_call (Below.refl _ w) (Nat.le_refl _) hb1)
  clear hb1
  go_wp2
  go_ret
  exact ⟨rfl, HB1.out⟩

end Go.Proofs.Ytjpcpdapbhmgiaa
