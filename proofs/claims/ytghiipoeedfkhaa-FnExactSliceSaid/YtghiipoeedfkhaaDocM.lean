/-
  Names, items, docs as plain data, and how they lie in cells.
-/
import Derived.Test.YtghiipoeedfkhaaBase1
namespace Go.Proofs.Ytghiipoeedfkhaa
open Go.RowKit

/-- The name of an item: its client and its clock. -/
structure Nm where
  c : Int
  k : Int
instance : DecidableEq Nm := fun a b => if h : a.c = b.c ∧ a.k = b.k then isTrue (by cases a; cases b; simp_all) else isFalse (fun e => h (by subst e; exact ⟨rfl, rfl⟩))
def eqN (a b : Nm) : Bool := decide (a = b)
theorem eqN_yes {a b : Nm} (h : a = b) : eqN a b = true := decide_eq_true h
theorem eqN_no {a b : Nm} (h : a ≠ b) : eqN a b = false := decide_eq_false h
theorem eqN_parts (a b : Nm) : (a.c == b.c && a.k == b.k) = eqN a b := by
  cases a; cases b
  unfold eqN
  rw [Bool.eq_iff_iff]
  simp
def no : Nm := ⟨0, 0⟩

/-- An item. -/
structure Im where
  i : Nm
  l : Nm
  r : Nm
  t : ByteArray
  g : Bool

@[reducible] def encN : Nm → List Value := fun n => [.int .i64 n.c, .int .i64 n.k]
@[reducible] def encM : Im → List Value := fun x => [.int .i64 x.i.c, .int .i64 x.i.k, .int .i64 x.l.c, .int .i64 x.l.k, .int .i64 x.r.c, .int .i64 x.r.k, .string x.t, .bool x.g]
theorem encN_len : ∀ x, (encN x).length = 2 := fun _ => rfl
theorem encM_len : ∀ x, (encM x).length = 8 := fun _ => rfl
theorem encN_one : ∀ x, ∀ u ∈ encN x, u.oneCell' = true := fun x u h => by simp [encN] at h; rcases h with rfl | rfl <;> rfl
theorem encM_one : ∀ x, ∀ u ∈ encM x, u.oneCell' = true := fun x u h => by simp [encM] at h; rcases h with rfl | rfl | rfl | rfl | rfl | rfl | rfl | rfl <;> rfl
@[reducible] def vN (n : Nm) : Value := .agg #[.int .i64 n.c, .int .i64 n.k]
@[reducible] def vM (x : Im) : Value := .agg #[.int .i64 x.i.c, .int .i64 x.i.k, .int .i64 x.l.c, .int .i64 x.l.k, .int .i64 x.r.c, .int .i64 x.r.k, .string x.t, .bool x.g]

/-- A name that an item may have. -/
def IdP (n : Nm) : Prop := 1 ≤ n.c ∧ n.c ≤ 9999 ∧ 0 ≤ n.k ∧ n.k ≤ 1000000
instance (n : Nm) : Decidable (IdP n) := by unfold IdP; infer_instance
def idB (n : Nm) : Bool := decide (IdP n)
theorem idB_iff (n : Nm) : idB n = true ↔ IdP n := decide_eq_true_iff
def CharP (t : ByteArray) : Prop := ∃ h : t.size = 1, 32 ≤ t[0].toNat ∧ t[0].toNat ≤ 126
instance (t : ByteArray) : Decidable (CharP t) := by unfold CharP; infer_instance
def charB (t : ByteArray) : Bool := decide (CharP t)
theorem charB_iff (t : ByteArray) : charB t = true ↔ CharP t := decide_eq_true_iff
/-- What an item must be to be right. -/
def ItemP (x : Im) : Prop := IdP x.i ∧ (x.l = no ∨ IdP x.l) ∧ (x.r = no ∨ IdP x.r) ∧ CharP x.t ∧ x.l ≠ x.i ∧ x.r ≠ x.i ∧ (x.l ≠ x.r ∨ x.l = no)
instance (x : Im) : Decidable (ItemP x) := by unfold ItemP; infer_instance
def itemB (x : Im) : Bool := decide (ItemP x)

theorem itemB_iff (x : Im) : itemB x = true ↔ ItemP x := decide_eq_true_iff

/-- A doc. -/
structure Dc where
  X : List Im
  P : List Im
  H : List Nm
/-- What holds of whatever name, item, doc comes in. -/
def HeldN (n : Nm) : Prop := -9223372036854775808 ≤ n.c ∧ n.c ≤ 9223372036854775807 ∧ -9223372036854775808 ≤ n.k ∧ n.k ≤ 9223372036854775807
def HeldM (x : Im) : Prop := HeldN x.i ∧ HeldN x.l ∧ HeldN x.r ∧ x.t.size ≤ maxLen
def HeldD (d : Dc) : Prop := d.X.length ≤ 9223372036854775807 ∧ (∀ x ∈ d.X, HeldM x) ∧ d.P.length ≤ 9223372036854775807 ∧ (∀ x ∈ d.P, HeldM x) ∧ d.H.length ≤ 9223372036854775807 ∧ ∀ n ∈ d.H, HeldN n
/-- What an input's measure bounds. -/
def SmallD (d : Dc) : Prop := d.X.length ≤ 1048576 ∧ (∀ x ∈ d.X, x.t.size ≤ 1048576) ∧ d.P.length ≤ 1048576 ∧ (∀ x ∈ d.P, x.t.size ≤ 1048576) ∧ d.H.length ≤ 1048576
/-- A doc's value that reads as d, below block B. -/
def DcAt (w : World) (B : Nat) (v : Value) (d : Dc) : Prop := ∃ vx vp vh, v = .agg #[vx, vp, vh] ∧ Sl w B 8 encM vx d.X ∧ Sl w B 8 encM vp d.P ∧ Sl w B 2 encN vh d.H
theorem DcAt.below {w w' : World} {B : Nat} {v : Value} {d : Dc} (h : DcAt w B v d) (hb : Below B w w') : DcAt w' B v d := by
  obtain ⟨vx, vp, vh, rfl, h1, h2, h3⟩ := h
  exact ⟨vx, vp, vh, rfl, h1.below hb, h2.below hb, h3.below hb⟩
theorem DcAt.more {w : World} {B B' : Nat} {v : Value} {d : Dc} (h : DcAt w B v d) (hB : B ≤ B') : DcAt w B' v d := by
  obtain ⟨vx, vp, vh, rfl, h1, h2, h3⟩ := h
  exact ⟨vx, vp, vh, rfl, h1.more hB, h2.more hB, h3.more hB⟩

/-! A box of eight cells. -/
theorem box8 {w : World} {b : Nat} {x0 x1 x2 x3 x4 x5 x6 x7 : Value} {T : TypeId} (h : w.heap[b]? = some (.cells #[x0, x1, x2, x3, x4, x5, x6, x7] T (0, 0))) :
    w.cell? ⟨b, 0, none⟩ = some x0 ∧ w.cell? ⟨b, 1, none⟩ = some x1 ∧ w.cell? ⟨b, 2, none⟩ = some x2 ∧ w.cell? ⟨b, 3, none⟩ = some x3 ∧ w.cell? ⟨b, 4, none⟩ = some x4 ∧ w.cell? ⟨b, 5, none⟩ = some x5 ∧ w.cell? ⟨b, 6, none⟩ = some x6 ∧ w.cell? ⟨b, 7, none⟩ = some x7 := by
  refine ⟨?_, ?_, ?_, ?_, ?_, ?_, ?_, ?_⟩ <;> simp [World.cell?, h]
theorem box_any {w : World} {b : Nat} {cs : Array Value} {T : TypeId} (h : w.heap[b]? = some (.cells cs T (0, 0))) (k : Nat) : w.frozen? ⟨b, k, none⟩ = false := block_free h k
theorem set_there {w : World} {b c k : Nat} {o : Obj} (h : w.heap[b]? = some o) (v : Value) (hne : b ≠ c) : (w.setCell ⟨c, k, none⟩ v).heap[b]? = some o := by
  rw [Below.heap_setCell _ _ _ _ hne]; exact h
theorem alloc_there {w : World} {b : Nat} {o : Obj} (h : w.heap[b]? = some o) (o' : Obj) : (w.alloc o').heap[b]? = some o := by
  rw [Below.heap_alloc w o' b (block_lt h)]; exact h
theorem bset {B b k : Nat} {a w : World} (h : Below B a w) (v : Value) (hB : B ≤ b) : Below B a (w.setCell ⟨b, k, none⟩ v) := h.setCell hB v
theorem ball {B : Nat} {a w : World} (h : Below B a w) (o : Obj) (hB : B ≤ w.heap.size) : Below B a (w.alloc o) := h.alloc hB o
theorem ofar {α : Type} {w : World} {base b k : Nat} {e : TypeId} {n : Nat} {enc : α → List Value} {v : Value} {l : List α} (h : Ow w base e n enc v l) (u : Value) (hb : b < base) : Ow (w.setCell ⟨b, k, none⟩ u) base e n enc v l := h.far hb u
theorem box3 {w : World} {b : Nat} {x0 x1 x2 : Value} {T : TypeId} (h : w.heap[b]? = some (.cells #[x0, x1, x2] T (0, 0))) : w.cell? ⟨b, 0, none⟩ = some x0 ∧ w.cell? ⟨b, 1, none⟩ = some x1 ∧ w.cell? ⟨b, 2, none⟩ = some x2 := by
  refine ⟨?_, ?_, ?_⟩ <;> simp [World.cell?, h]

/-- A ledger of a walk: nothing that was there has changed, blocks known whole, and whatever else stays so. -/
structure Lg (w W : World) (L : List (Nat × Obj)) (F : List (World → Prop)) : Prop where
  bel : Below w.heap.size w W
  blk : ∀ p ∈ L, W.heap[p.1]? = some p.2
  now : ∀ p ∈ F, p W
  mono : ∀ p ∈ F, Mono p
theorem Lg.lift {w W W' : World} {L : List (Nat × Obj)} {F : List (World → Prop)} (h : Lg w W L F) (k : Below W.heap.size W W') : Lg w W' L F :=
  ⟨h.bel.trans (k.mono h.bel.size), fun p hp => by rw [k.block _ (block_lt (h.blk p hp))]; exact h.blk p hp, fun p hp => h.mono p hp _ _ k (h.now p hp), h.mono⟩
theorem Lg.start (w : World) : Lg w w [] [] := ⟨Below.refl _ _, fun _ h => absurd h (by simp), fun _ h => absurd h (by simp), fun _ h => absurd h (by simp)⟩
theorem Lg.alloc {w W : World} {L : List (Nat × Obj)} {F : List (World → Prop)} (h : Lg w W L F) (o : Obj) : Lg w (W.alloc o) ((W.heap.size, o) :: L) F := by
  have k := h.lift ((Below.refl W.heap.size W).alloc (Nat.le_refl _) o)
  refine ⟨k.bel, fun p hp => ?_, k.now, k.mono⟩
  rcases List.mem_cons.1 hp with rfl | hp
  · exact heap_alloc_new W o
  · exact k.blk p hp
theorem Lg.know {w W : World} {L : List (Nat × Obj)} {F : List (World → Prop)} (h : Lg w W L F) {b : Nat} {o : Obj} (hb : W.heap[b]? = some o) : Lg w W ((b, o) :: L) F :=
  ⟨h.bel, fun p hp => by rcases List.mem_cons.1 hp with rfl | hp; exact hb; exact h.blk p hp, h.now, h.mono⟩
theorem Lg.add {w W : World} {L : List (Nat × Obj)} {F : List (World → Prop)} (h : Lg w W L F) {p : World → Prop} (hp : p W) (hm : Mono p) : Lg w W L (p :: F) :=
  ⟨h.bel, h.blk, fun q hq => by rcases List.mem_cons.1 hq with rfl | hq; exact hp; exact h.now q hq, fun q hq => by rcases List.mem_cons.1 hq with rfl | hq; exact hm; exact h.mono q hq⟩
theorem wp_region_calm_lg {P : Program} {id : Nat} {Q : Exit → Act → World → Prop} {a : Act} {w w0 : World} {l : List Oper} {L : List (Nat × Obj)} {F0 : List (World → Prop)} (N : List (Nat × (Value → Prop) × (Value → World → Prop))) (hm : P.follows .mixedOrders = true) (hB : lexHead0 .any l.toArray = true)
    (hN : ∀ p ∈ N, ∀ v, Mono (p.2.2 v)) (h0 : Lg w0 w L F0)
    (h : wpCalm P l.toArray .any (fun W => Lg w0 W L F0) N (fun a' F => ∀ w', Lg w0 w' L F0 → (∀ k, F k w') → Q .normal a' w') l 0 a noF) : (Code.region id l.toArray true).wp P Q a w :=
  wp_region_calm (fun W => Lg w0 W L F0) N hm hB (fun _ _ hb h => h.lift hb) (monoN_of hN) (h0.lift (Below.refl w.heap.size w).drew) h
theorem wp_region_calm_lg_tail {P : Program} {id : Nat} {Q : Exit → Act → World → Prop} {a : Act} {w w0 : World} {l : List Oper} {L : List (Nat × Obj)} {F0 : List (World → Prop)} (N : List (Nat × (Value → Prop) × (Value → World → Prop))) (n : Nat) (hm : P.follows .mixedOrders = true) (hB : Region.lexTailB .any l.toArray n = true)
    (hN : ∀ p ∈ N, ∀ v, Mono (p.2.2 v)) (h0 : Lg w0 w L F0)
    (h : wpCalm P l.toArray .any (fun W => Lg w0 W L F0) N (fun a' F => ∀ w', Lg w0 w' L F0 → (∀ k, F k w') → wpList P l.toArray Q (l.drop n) a' w') (l.take n) 0 a noF) : (Code.region id l.toArray true).wp P Q a w :=
  wp_region_calm_tail (fun W => Lg w0 W L F0) N n hm hB (fun _ _ hb h => h.lift hb) (monoN_of hN) (h0.lift (Below.refl w.heap.size w).drew) h
theorem mono_sl {B : Nat} {α : Type} {k : Nat} {enc : α → List Value} {v : Value} {l : List α} : Mono (fun W => B ≤ W.heap.size ∧ Sl W B k enc v l) := fun _ _ hb h => ⟨Nat.le_trans h.1 hb.size, h.2.below (hb.mono h.1)⟩

/-- A call tells b. -/
def Tell (b : Bool) (w : World) (e : Ending) (w' : World) : Prop := e = .returned (.bool b) ∧ Below w.heap.size w w'
theorem Tell.to {b c : Bool} {w : World} {e : Ending} {w' : World} (h : Tell b w e w') (hb : b = c) : Tell c w e w' := hb ▸ h

end Go.Proofs.Ytghiipoeedfkhaa
