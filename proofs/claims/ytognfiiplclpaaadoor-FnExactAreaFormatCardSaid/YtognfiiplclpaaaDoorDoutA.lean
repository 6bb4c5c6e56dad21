/-
  An answer of a disk: how it lies in memory.
-/
import Derived.Test.YtognfiiplclpaaaDoorMarkB
namespace Go.Proofs.YtognfiiplclpaaaDoor
open Go.ChangeShapes Go.WideShapes Go.ChangeAt Go.RowKit


structure Do where
  dk : Dk
  data : ByteArray
  code : Int
def DoAt (w : World) (B : Nat) (v : Value) (o : Do) : Prop := ∃ vs vp, v = .agg #[vs, vp, .string o.data, .int .i64 o.code] ∧ DkAt w B (.agg #[vs, vp]) o.dk
def DoOw (w : World) (base : Nat) (v : Value) (o : Do) : Prop := ∃ vs vp, v = .agg #[vs, vp, .string o.data, .int .i64 o.code] ∧ DkOw w base (.agg #[vs, vp]) o.dk
def OwnsDo (w : World) (o : Do) (e : Ending) (w' : World) : Prop := ∃ v, e = .returned v ∧ DoOw w' w.heap.size v o ∧ Below w.heap.size w w'
/-- Nothing but a code. -/
def illDo (c : Int) : Do := ⟨⟨[], []⟩, ⟨#[]⟩, c⟩

theorem dk_none (w : World) (base : Nat) : DkOw w base (.agg #[.slice none 0 0, .slice none 0 0]) ⟨[], []⟩ := ⟨_, _, rfl, World.ownsRow_nil w base _ _, World.ownsRow_nil w base _ _⟩
theorem do_ill (w : World) (base : Nat) (c : Int) : DoOw w base (.agg #[.slice none 0 0, .slice none 0 0, .string ⟨#[]⟩, .int .i64 c]) (illDo c) := ⟨_, _, rfl, dk_none w base⟩

theorem DkOw.forms {w : World} {base : Nat} {vs vp : Value} {d : Dk} (h : DkOw w base (.agg #[vs, vp]) d) : ∃ A1 c1 A2 c2, vs = .slice A1 d.S.length c1 ∧ vp = .slice A2 d.P.length c2 := by
  obtain ⟨a, b, e, h1, h2⟩ := h
  simp only [Value.agg.injEq, Array.mk.injEq, List.cons.injEq, and_true] at e
  obtain ⟨rfl, rfl⟩ := e
  obtain ⟨A1, c1, rfl⟩ := h1.form
  obtain ⟨A2, c2, rfl⟩ := h2.form
  exact ⟨A1, c1, A2, c2, rfl, rfl⟩
/-- An answer, its parts named. -/
theorem OwnsDo.parts {w : World} {o : Do} {e : Ending} {w' : World} (h : OwnsDo w o e w') : ∃ A1 c1 A2 c2, e = .returned (.agg #[.slice A1 o.dk.S.length c1, .slice A2 o.dk.P.length c2, .string o.data, .int .i64 o.code]) ∧ DkOw w' w.heap.size (.agg #[.slice A1 o.dk.S.length c1, .slice A2 o.dk.P.length c2]) o.dk ∧ Below w.heap.size w w' := by
  obtain ⟨v, rfl, ⟨vs, vp, rfl, hd⟩, hb⟩ := h
  obtain ⟨A1, c1, A2, c2, rfl, rfl⟩ := hd.forms
  exact ⟨A1, c1, A2, c2, rfl, hd, hb⟩
theorem DkOw.far {w : World} {base : Nat} {v : Value} {d : Dk} (h : DkOw w base v d) {p : Addr} (hp : p.block < base) (u : Value) : DkOw (w.setCell p u) base v d := by
  obtain ⟨vs, vp, rfl, h1, h2⟩ := h
  exact ⟨vs, vp, rfl, h1.far hp u, h2.far hp u⟩
theorem DkOw.alloc {w : World} {base : Nat} {v : Value} {d : Dk} (h : DkOw w base v d) (o : Obj) : DkOw (w.alloc o) base v d := by
  obtain ⟨vs, vp, rfl, h1, h2⟩ := h
  exact ⟨vs, vp, rfl, h1.alloc o, h2.alloc o⟩

theorem box4 {w : World} {b : Nat} {x0 x1 x2 x3 : Value} {T : TypeId} (h : w.heap[b]? = some (.cells #[x0, x1, x2, x3] T (0, 0))) : w.cell? ⟨b, 0, none⟩ = some x0 ∧ w.cell? ⟨b, 1, none⟩ = some x1 ∧ w.cell? ⟨b, 2, none⟩ = some x2 ∧ w.cell? ⟨b, 3, none⟩ = some x3 := by
  refine ⟨?_, ?_, ?_, ?_⟩ <;> simp [World.cell?, h]

theorem spec_ill (c : Int) (w : World) : Calls Tryd.prog 44 #[.int .i64 c] w fun e w' => e = .returned (.agg #[.slice none 0 0, .slice none 0 0, .string ⟨#[]⟩, .int .i64 c]) ∧ Below w.heap.size w w' := by
  go_enter Tryd.func44, Tryd.ntmps44
  go_wp2
  exact bodyPost_ret (v := .agg #[.slice none 0 0, .slice none 0 0, .string ⟨#[]⟩, .int .i64 c]) (by simp [results, Tryd.results44, go_sem]) rfl ⟨rfl, (Below.refl _ _).alloc (Nat.le_refl _) _⟩

end Go.Proofs.YtognfiiplclpaaaDoor
