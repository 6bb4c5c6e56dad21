/-
  The bytes of an update: contracts of the model and of the program.
-/
import Derived.Test.YtaggmcdfggmlhaaUpI
import Derived.Test.YtaggmcdfggmlhaaPutTx
import Derived.Test.YtaggmcdfggmlhaaBldD
namespace Go.Proofs.Ytaggmcdfggmlhaa
set_option linter.unusedSimpArgs false
set_option linter.unusedVariables false
open Go.ChangeShapes Go.WideShapes Go.ChangeAt Go.RowKit

def idBy (n : Nm) : ByteArray := catB (putNumB n.c) (putNumB n.k)
def itemBy (x : Im) : ByteArray := catB (catB (catB (idBy x.i) (idBy x.l)) (idBy x.r)) (putTextB x.t)
theorem catB_assoc (a b c : ByteArray) : catB a (catB b c) = catB (catB a b) c := by
  unfold catB
  simp [List.append_assoc]
theorem putNumB_small (n : Int) : (putNumB n).size ≤ 10 := (putNum_length n).2
theorem idBy_size (n : Nm) : (idBy n).size ≤ 20 := by
  have := putNumB_small n.c; have := putNumB_small n.k
  unfold idBy; rw [catB_size]; omega
def TextP (x : Im) : Prop := HeldN x.i ∧ HeldN x.l ∧ HeldN x.r ∧ x.t.size = 1
theorem idBy_small (n : Nm) (_ : HeldN n) : (idBy n).size ≤ 71 := by have := idBy_size n; omega
theorem itemBy_small (x : Im) (h : TextP x) : (itemBy x).size ≤ 71 := by
  have := idBy_size x.i; have := idBy_size x.l; have := idBy_size x.r; have := putNumB_small x.t.size; have := h.2.2.2
  unfold itemBy putTextB
  simp only [catB_size]
  omega
/-- How many, and the first k's bytes. -/
def rowTo {α : Type} (f : α → ByteArray) (l : List α) (k : Nat) : ByteArray := ((l.take k).map f).foldl catB (putNumB l.length)
def rowBy {α : Type} (f : α → ByteArray) (l : List α) : ByteArray := rowTo f l l.length
theorem rowTo_zero {α : Type} (f : α → ByteArray) (l : List α) : rowTo f l 0 = putNumB l.length := rfl
theorem rowTo_all {α : Type} (f : α → ByteArray) (l : List α) : rowTo f l l.length = rowBy f l := rfl
theorem rowTo_succ {α : Type} (f : α → ByteArray) {l : List α} {k : Nat} (hk : k < l.length) : rowTo f l (k + 1) = catB (rowTo f l k) (f l[k]) := by
  unfold rowTo
  rw [List.take_succ_eq_append_getElem hk, List.map_append, List.foldl_append]
  rfl
theorem rowTo_small {α : Type} (f : α → ByteArray) (l : List α) (k : Nat) (hk : k ≤ l.length) (h : ∀ x ∈ l, (f x).size ≤ 71) : (rowTo f l k).size ≤ 10 + 71 * k := by
  induction k with
  | zero => rw [rowTo_zero]; exact putNumB_small _
  | succ k ih =>
    rw [rowTo_succ f (by omega), catB_size]
    have := ih (by omega); have := h l[k] (List.getElem_mem _)
    omega
theorem rowTo_id (l : List Nm) (k : Nat) (hk : k ≤ l.length) : (rowTo idBy l k).size ≤ 10 + 20 * k := by
  induction k with
  | zero => rw [rowTo_zero]; exact putNumB_small _
  | succ k ih =>
    rw [rowTo_succ idBy (by omega), catB_size]
    have := ih (by omega); have := idBy_size l[k]
    omega
def updBody (u : Up) : ByteArray := catB (rowBy itemBy u.X) (rowBy idBy u.H)
noncomputable def updBy (u : Up) : ByteArray := if updB u = true then sealB (updBody u) else ⟨#[]⟩
theorem updBy_yes {u : Up} (h : updB u = true) : updBy u = sealB (updBody u) := if_pos h
theorem updBy_no {u : Up} (h : updB u = false) : updBy u = ⟨#[]⟩ := if_neg (by rw [h]; exact Bool.false_ne_true)
theorem upd_textP {u : Up} (h : UpdP u) (hh : HeldU u) : ∀ x ∈ u.X, TextP x := by
  intro x hx
  obtain ⟨i, hi, rfl⟩ := List.getElem_of_mem hx
  have h1 := hh.2.1 _ hx
  exact ⟨h1.1, h1.2.1, h1.2.2.1, (h.2.2.1 i hi hi).1.2.2.2.1.1⟩
theorem updBody_size {u : Up} (h : UpdP u) (hh : HeldU u) : (rowBy itemBy u.X).size ≤ 4270 ∧ (rowBy idBy u.H).size ≤ 1610 := by
  have h1 := rowTo_small itemBy u.X u.X.length (Nat.le_refl _) (fun x hx => itemBy_small x (upd_textP h hh x hx))
  have h2 := rowTo_id u.H u.H.length (Nat.le_refl _)
  have := h.1; have := h.2.1
  unfold rowBy
  omega
theorem catB_cells (a b : ByteArray) : Lib.byteCells (catB a b).data.toList = Lib.byteCells a.data.toList ++ Lib.strCells b := by
  unfold catB Lib.byteCells Lib.strCells
  simp
theorem bld_lift {T e : TypeId} {B b : Nat} {bs : List Value} {w w' : World} (h : Lib.IsBuilder T e B b bs w) (hb : Below w.heap.size w w') : Lib.IsBuilder T e B b bs w' := by
  rcases h with ⟨h1, v, h2, h3, h4⟩ | ⟨h1, v, h2, h3, h4⟩
  · exact .inl ⟨h1, v, keep_blk hb h2, own_lift h3 hb, h4⟩
  · exact .inr ⟨h1, v, keep_blk hb h2, own_lift h3 hb, h4⟩

set_option maxRecDepth 100000 in
set_option maxHeartbeats 4000000 in
theorem spec_putid (n : Nm) (w : World) (hn : HeldN n) : Calls Try.prog 162 #[vN n] w (Back (.string (idBy n)) w) := by
  have HL := Lib.hid ((Lg.start w).alloc (.cells #[.int .i64 n.c, .int .i64 n.k] 89))
  have HA := Lib.hid (append_catB (putNumB n.c) (putNumB n.k))
  obtain ⟨h1, h2, h3, h4⟩ := hn
  have s1 := putNumB_small n.c; have s2 := putNumB_small n.k
  have s3 : ¬ 9223372036854775807 < (putNumB n.c).size + (putNumB n.k).size := by omega
  go_enter Try.func162, Try.ntmps162
  go_upto_region 1 with fail
  refine wp_region_calm_lg (told [(2, fun u => u = .string (putNumB n.c)), (5, fun u => u = .string (putNumB n.k))]) (by kernel_rfl) (by kernel_rfl) (told_mono _) HL.out ?_
  repeat (first
    | (refine calm_skip (by rfl) ?_; try simp only [Act.put, List.setIfInBounds_toArray, List.set_cons_zero, List.set_cons_succ])
    | (refine calm_plain (by rfl) (by rfl) ?_; apply Exists.intro; refine ⟨fun wc hC hD => ?_, ?_⟩; (focus (clear hD; obtain ⟨b0, b1⟩ := box2 (hC.blk _ List.mem_cons_self); clear hC; go_simp; first | done | with_reducible rfl)); try simp only [Act.put, List.setIfInBounds_toArray, List.set_cons_zero, List.set_cons_succ]))
  refine calm_call _ _ (by rfl) (by rfl) ?_ ?_
  focus
    apply Exists.intro
    apply Exists.intro
    refine ⟨fun wc hC hD => ?_, fun wc hC hD => ?_⟩
    focus (clear hD; obtain ⟨b0, b1⟩ := box2 (hC.blk _ List.mem_cons_self); clear hC; go_simp; first | done | with_reducible exact ⟨rfl, rfl⟩ | with_reducible rfl)
    clear hD
    with_reducible refine (spec_putnum n.c _ h1 h2).mono ?_
    rintro e wx ⟨rfl, hb⟩
    exact ⟨_, rfl, hb, rfl, trivial⟩
  rintro _ rfl
  try simp only [Act.put, List.setIfInBounds_toArray, List.set_cons_zero, List.set_cons_succ]
  repeat (first
    | (refine calm_skip (by rfl) ?_; try simp only [Act.put, List.setIfInBounds_toArray, List.set_cons_zero, List.set_cons_succ])
    | (refine calm_plain (by rfl) (by rfl) ?_; apply Exists.intro; refine ⟨fun wc hC hD => ?_, ?_⟩; (focus (clear hD; obtain ⟨b0, b1⟩ := box2 (hC.blk _ List.mem_cons_self); clear hC; go_simp; first | done | with_reducible rfl)); try simp only [Act.put, List.setIfInBounds_toArray, List.set_cons_zero, List.set_cons_succ]))
  refine calm_call _ _ (by rfl) (by rfl) ?_ ?_
  focus
    apply Exists.intro
    apply Exists.intro
    refine ⟨fun wc hC hD => ?_, fun wc hC hD => ?_⟩
    focus (clear hD; obtain ⟨b0, b1⟩ := box2 (hC.blk _ List.mem_cons_self); clear hC; go_simp; first | done | with_reducible exact ⟨rfl, rfl⟩ | with_reducible rfl)
    clear hD
    with_reducible refine (spec_putnum n.k _ h3 h4).mono ?_
    rintro e wx ⟨rfl, hb⟩
    exact ⟨_, rfl, hb, rfl, trivial⟩
  rintro _ rfl
  try simp only [Act.put, List.setIfInBounds_toArray, List.set_cons_zero, List.set_cons_succ]
  repeat (first
    | (refine calm_skip (by rfl) ?_; try simp only [Act.put, List.setIfInBounds_toArray, List.set_cons_zero, List.set_cons_succ])
    | (refine calm_plain (by rfl) (by rfl) ?_; apply Exists.intro; refine ⟨fun wc hC hD => ?_, ?_⟩; (focus (clear hD; obtain ⟨b0, b1⟩ := box2 (hC.blk _ List.mem_cons_self); clear hC; go_simp; first | done | with_reducible rfl)); try simp only [Act.put, List.setIfInBounds_toArray, List.set_cons_zero, List.set_cons_succ]))
  refine calm_end ?_
  intro w7 hL7 hF7
  clear hF7
  replace HL := Lib.hid hL7
  clear hL7
  go_wp2
  go_ret
  exact ⟨by unfold idBy; rw [← HA.out]; rfl, HL.out.bel⟩

set_option maxRecDepth 100000 in
set_option maxHeartbeats 4000000 in
theorem impl_idBytes (n : Nm) (w : World) (hn : HeldN n) : Calls Try.prog 109 #[vN n] w (Back (.string (idBy n)) w) := by
  have HL := Lib.hid ((Lg.start w).alloc (.cells #[.int .i64 n.c, .int .i64 n.k] 89))
  have HA := Lib.hid (append_catB (putNumB n.c) (putNumB n.k))
  obtain ⟨h1, h2, h3, h4⟩ := hn
  have s1 := putNumB_small n.c; have s2 := putNumB_small n.k
  have s3 : ¬ 9223372036854775807 < (putNumB n.c).size + (putNumB n.k).size := by omega
  go_enter Try.func109, Try.ntmps109
  go_upto_region 1 with fail
  refine wp_region_calm_lg (told [(2, fun u => u = .string (putNumB n.c)), (5, fun u => u = .string (putNumB n.k)), (6, fun u => u = .string (idBy n))]) (by kernel_rfl) (by kernel_rfl) (told_mono _) HL.out ?_
  repeat (first
    | (refine calm_skip (by rfl) ?_; try simp only [Act.put, List.setIfInBounds_toArray, List.set_cons_zero, List.set_cons_succ])
    | (refine calm_plain (by rfl) (by rfl) ?_; apply Exists.intro; refine ⟨fun wc hC hD => ?_, ?_⟩; (focus (clear hD; obtain ⟨b0, b1⟩ := box2 (hC.blk _ List.mem_cons_self); clear hC; go_simp; first | done | with_reducible rfl)); try simp only [Act.put, List.setIfInBounds_toArray, List.set_cons_zero, List.set_cons_succ]))
  refine calm_call _ _ (by rfl) (by rfl) ?_ ?_
  focus
    apply Exists.intro
    apply Exists.intro
    refine ⟨fun wc hC hD => ?_, fun wc hC hD => ?_⟩
    focus (clear hD; obtain ⟨b0, b1⟩ := box2 (hC.blk _ List.mem_cons_self); clear hC; go_simp; first | done | with_reducible exact ⟨rfl, rfl⟩ | with_reducible rfl)
    clear hD
    with_reducible refine (impl_putnum n.c _ h1 h2).mono ?_
    rintro e wx ⟨rfl, hb⟩
    exact ⟨_, rfl, hb, rfl, trivial⟩
  rintro _ rfl
  try simp only [Act.put, List.setIfInBounds_toArray, List.set_cons_zero, List.set_cons_succ]
  repeat (first
    | (refine calm_skip (by rfl) ?_; try simp only [Act.put, List.setIfInBounds_toArray, List.set_cons_zero, List.set_cons_succ])
    | (refine calm_plain (by rfl) (by rfl) ?_; apply Exists.intro; refine ⟨fun wc hC hD => ?_, ?_⟩; (focus (clear hD; obtain ⟨b0, b1⟩ := box2 (hC.blk _ List.mem_cons_self); clear hC; go_simp; first | done | with_reducible rfl)); try simp only [Act.put, List.setIfInBounds_toArray, List.set_cons_zero, List.set_cons_succ]))
  refine calm_call _ _ (by rfl) (by rfl) ?_ ?_
  focus
    apply Exists.intro
    apply Exists.intro
    refine ⟨fun wc hC hD => ?_, fun wc hC hD => ?_⟩
    focus (clear hD; obtain ⟨b0, b1⟩ := box2 (hC.blk _ List.mem_cons_self); clear hC; go_simp; first | done | with_reducible exact ⟨rfl, rfl⟩ | with_reducible rfl)
    clear hD
    with_reducible refine (impl_putnum n.k _ h3 h4).mono ?_
    rintro e wx ⟨rfl, hb⟩
    exact ⟨_, rfl, hb, rfl, trivial⟩
  rintro _ rfl
  try simp only [Act.put, List.setIfInBounds_toArray, List.set_cons_zero, List.set_cons_succ]
  repeat (first
    | (refine calm_skip (by rfl) ?_; try simp only [Act.put, List.setIfInBounds_toArray, List.set_cons_zero, List.set_cons_succ])
    | (refine calm_plain (by rfl) (by rfl) ?_; apply Exists.intro; refine ⟨fun wc hC hD => ?_, ?_⟩; (focus (clear hD; obtain ⟨b0, b1⟩ := box2 (hC.blk _ List.mem_cons_self); clear hC; go_simp; first | done | with_reducible rfl)); try simp only [Act.put, List.setIfInBounds_toArray, List.set_cons_zero, List.set_cons_succ]))
  refine calm_call _ _ (by rfl) (by rfl) ?_ ?_
  focus
    apply Exists.intro
    apply Exists.intro
    refine ⟨fun wc hC hD => ?_, fun wc hC hD => ?_⟩
    focus (clear hD; obtain ⟨b0, b1⟩ := box2 (hC.blk _ List.mem_cons_self); clear hC; go_simp; first | done | with_reducible exact ⟨rfl, rfl⟩ | with_reducible rfl)
    clear hD
    with_reducible refine (impl_joined (putNumB n.c) (putNumB n.k) _ (by have := putNumB_small n.c; omega) (by have := putNumB_small n.k; omega)).mono ?_
    rintro e wx ⟨rfl, hb⟩
    exact ⟨_, rfl, hb, rfl, trivial⟩
  rintro _ rfl
  try simp only [Act.put, List.setIfInBounds_toArray, List.set_cons_zero, List.set_cons_succ]
  repeat (first
    | (refine calm_skip (by rfl) ?_; try simp only [Act.put, List.setIfInBounds_toArray, List.set_cons_zero, List.set_cons_succ])
    | (refine calm_plain (by rfl) (by rfl) ?_; apply Exists.intro; refine ⟨fun wc hC hD => ?_, ?_⟩; (focus (clear hD; obtain ⟨b0, b1⟩ := box2 (hC.blk _ List.mem_cons_self); clear hC; go_simp; first | done | with_reducible rfl)); try simp only [Act.put, List.setIfInBounds_toArray, List.set_cons_zero, List.set_cons_succ]))
  refine calm_end ?_
  intro w7 hL7 hF7
  clear hF7
  replace HL := Lib.hid hL7
  clear hL7
  go_wp2
  go_ret
  exact ⟨rfl, HL.out.bel⟩

set_option maxRecDepth 100000 in
set_option maxHeartbeats 8000000 in
theorem spec_putitem (x : Im) (w : World) (hx : TextP x) : Calls Try.prog 101 #[vM x] w (Back (.string (itemBy x)) w) := by
  have HL := Lib.hid ((Lg.start w).alloc (.cells #[.int .i64 x.i.c, .int .i64 x.i.k, .int .i64 x.l.c, .int .i64 x.l.k, .int .i64 x.r.c, .int .i64 x.r.k, .string x.t, .bool x.g] 91))
  have HA := Lib.hid (append_catB)
  obtain ⟨hi, hl, hr, ht⟩ := hx
  have s1 := idBy_size x.i; have s2 := idBy_size x.l; have s3 := idBy_size x.r
  have s4 : (putTextB x.t).size ≤ 11 := by have := putNumB_small x.t.size; unfold putTextB; rw [catB_size]; omega
  have s5 : ¬ 9223372036854775807 < (idBy x.i).size + (idBy x.l).size := by omega
  have s6 : ¬ 9223372036854775807 < (idBy x.i ++ idBy x.l).size + (idBy x.r).size := by simp only [ByteArray.size_append]; omega
  have s7 : ¬ 9223372036854775807 < (idBy x.i ++ idBy x.l ++ idBy x.r).size + (putTextB x.t).size := by simp only [ByteArray.size_append]; omega
  have s8 := s6; have s9 := s7
  simp only [ByteArray.size_append] at s8 s9
  go_enter Try.func101, Try.ntmps101
  go_upto_region 1 with fail
  refine wp_region_calm_lg (told [(2, fun u => u = .string (idBy x.i)), (5, fun u => u = .string (idBy x.l)), (9, fun u => u = .string (idBy x.r)), (13, fun u => u = .string (putTextB x.t))]) (by kernel_rfl) (by kernel_rfl) (told_mono _) HL.out ?_
  repeat (first
    | (refine calm_skip (by rfl) ?_; try simp only [Act.put, List.setIfInBounds_toArray, List.set_cons_zero, List.set_cons_succ])
    | (refine calm_plain (by rfl) (by rfl) ?_; apply Exists.intro; refine ⟨fun wc hC hD => ?_, ?_⟩; (focus (clear hD; obtain ⟨b0, b1, b2, b3, b4, b5, b6, b7⟩ := box8 (hC.blk _ List.mem_cons_self); clear hC; go_simp; first | done | with_reducible rfl)); try simp only [Act.put, List.setIfInBounds_toArray, List.set_cons_zero, List.set_cons_succ]))
  refine calm_call _ _ (by rfl) (by rfl) ?_ ?_
  focus
    apply Exists.intro
    apply Exists.intro
    refine ⟨fun wc hC hD => ?_, fun wc hC hD => ?_⟩
    focus (clear hD; obtain ⟨b0, b1, b2, b3, b4, b5, b6, b7⟩ := box8 (hC.blk _ List.mem_cons_self); clear hC; go_simp; first | done | with_reducible exact ⟨rfl, rfl⟩ | with_reducible rfl)
    clear hD
    with_reducible refine (spec_putid x.i _ hi).mono ?_
    rintro e wx ⟨rfl, hb⟩
    exact ⟨_, rfl, hb, rfl, trivial⟩
  rintro _ rfl
  try simp only [Act.put, List.setIfInBounds_toArray, List.set_cons_zero, List.set_cons_succ]
  repeat (first
    | (refine calm_skip (by rfl) ?_; try simp only [Act.put, List.setIfInBounds_toArray, List.set_cons_zero, List.set_cons_succ])
    | (refine calm_plain (by rfl) (by rfl) ?_; apply Exists.intro; refine ⟨fun wc hC hD => ?_, ?_⟩; (focus (clear hD; obtain ⟨b0, b1, b2, b3, b4, b5, b6, b7⟩ := box8 (hC.blk _ List.mem_cons_self); clear hC; go_simp; first | done | with_reducible rfl)); try simp only [Act.put, List.setIfInBounds_toArray, List.set_cons_zero, List.set_cons_succ]))
  refine calm_call _ _ (by rfl) (by rfl) ?_ ?_
  focus
    apply Exists.intro
    apply Exists.intro
    refine ⟨fun wc hC hD => ?_, fun wc hC hD => ?_⟩
    focus (clear hD; obtain ⟨b0, b1, b2, b3, b4, b5, b6, b7⟩ := box8 (hC.blk _ List.mem_cons_self); clear hC; go_simp; first | done | with_reducible exact ⟨rfl, rfl⟩ | with_reducible rfl)
    clear hD
    with_reducible refine (spec_putid x.l _ hl).mono ?_
    rintro e wx ⟨rfl, hb⟩
    exact ⟨_, rfl, hb, rfl, trivial⟩
  rintro _ rfl
  try simp only [Act.put, List.setIfInBounds_toArray, List.set_cons_zero, List.set_cons_succ]
  repeat (first
    | (refine calm_skip (by rfl) ?_; try simp only [Act.put, List.setIfInBounds_toArray, List.set_cons_zero, List.set_cons_succ])
    | (refine calm_plain (by rfl) (by rfl) ?_; apply Exists.intro; refine ⟨fun wc hC hD => ?_, ?_⟩; (focus (clear hD; obtain ⟨b0, b1, b2, b3, b4, b5, b6, b7⟩ := box8 (hC.blk _ List.mem_cons_self); clear hC; go_simp; first | done | with_reducible rfl)); try simp only [Act.put, List.setIfInBounds_toArray, List.set_cons_zero, List.set_cons_succ]))
  refine calm_call _ _ (by rfl) (by rfl) ?_ ?_
  focus
    apply Exists.intro
    apply Exists.intro
    refine ⟨fun wc hC hD => ?_, fun wc hC hD => ?_⟩
    focus (clear hD; obtain ⟨b0, b1, b2, b3, b4, b5, b6, b7⟩ := box8 (hC.blk _ List.mem_cons_self); clear hC; go_simp; first | done | with_reducible exact ⟨rfl, rfl⟩ | with_reducible rfl)
    clear hD
    with_reducible refine (spec_putid x.r _ hr).mono ?_
    rintro e wx ⟨rfl, hb⟩
    exact ⟨_, rfl, hb, rfl, trivial⟩
  rintro _ rfl
  try simp only [Act.put, List.setIfInBounds_toArray, List.set_cons_zero, List.set_cons_succ]
  repeat (first
    | (refine calm_skip (by rfl) ?_; try simp only [Act.put, List.setIfInBounds_toArray, List.set_cons_zero, List.set_cons_succ])
    | (refine calm_plain (by rfl) (by rfl) ?_; apply Exists.intro; refine ⟨fun wc hC hD => ?_, ?_⟩; (focus (clear hD; obtain ⟨b0, b1, b2, b3, b4, b5, b6, b7⟩ := box8 (hC.blk _ List.mem_cons_self); clear hC; go_simp; first | done | with_reducible rfl)); try simp only [Act.put, List.setIfInBounds_toArray, List.set_cons_zero, List.set_cons_succ]))
  refine calm_call _ _ (by rfl) (by rfl) ?_ ?_
  focus
    apply Exists.intro
    apply Exists.intro
    refine ⟨fun wc hC hD => ?_, fun wc hC hD => ?_⟩
    focus (clear hD; obtain ⟨b0, b1, b2, b3, b4, b5, b6, b7⟩ := box8 (hC.blk _ List.mem_cons_self); clear hC; go_simp; first | done | with_reducible exact ⟨rfl, rfl⟩ | with_reducible rfl)
    clear hD
    with_reducible refine (spec_puttext x.t _ (by have := ht; omega)).mono ?_
    rintro e wx ⟨rfl, hb⟩
    exact ⟨_, rfl, hb, rfl, trivial⟩
  rintro _ rfl
  try simp only [Act.put, List.setIfInBounds_toArray, List.set_cons_zero, List.set_cons_succ]
  repeat (first
    | (refine calm_skip (by rfl) ?_; try simp only [Act.put, List.setIfInBounds_toArray, List.set_cons_zero, List.set_cons_succ])
    | (refine calm_plain (by rfl) (by rfl) ?_; apply Exists.intro; refine ⟨fun wc hC hD => ?_, ?_⟩; (focus (clear hD; obtain ⟨b0, b1, b2, b3, b4, b5, b6, b7⟩ := box8 (hC.blk _ List.mem_cons_self); clear hC; go_simp; first | done | with_reducible rfl)); try simp only [Act.put, List.setIfInBounds_toArray, List.set_cons_zero, List.set_cons_succ]))
  refine calm_end ?_
  intro w7 hL7 hF7
  clear hF7
  replace HL := Lib.hid hL7
  clear hL7
  go_wp2
  go_ret
  exact ⟨by unfold itemBy; simp only [← HA.out]; rfl, HL.out.bel⟩

set_option maxRecDepth 100000 in
set_option maxHeartbeats 8000000 in
theorem impl_itemBytes (x : Im) (w : World) (hx : TextP x) : Calls Try.prog 107 #[vM x] w (Back (.string (itemBy x)) w) := by
  have HL := Lib.hid ((Lg.start w).alloc (.cells #[.int .i64 x.i.c, .int .i64 x.i.k, .int .i64 x.l.c, .int .i64 x.l.k, .int .i64 x.r.c, .int .i64 x.r.k, .string x.t, .bool x.g] 91))
  obtain ⟨hi, hl, hr, ht⟩ := hx
  go_enter Try.func107, Try.ntmps107
  go_upto_region 1 with fail
  refine wp_region_calm_lg (told [(2, fun u => u = .string (idBy x.l)), (5, fun u => u = .string (idBy x.r)), (6, fun u => u = .string (catB (idBy x.l) (idBy x.r)))]) (by kernel_rfl) (by kernel_rfl) (told_mono _) HL.out ?_
  repeat (first
    | (refine calm_skip (by rfl) ?_; try simp only [Act.put, List.setIfInBounds_toArray, List.set_cons_zero, List.set_cons_succ])
    | (refine calm_plain (by rfl) (by rfl) ?_; apply Exists.intro; refine ⟨fun wc hC hD => ?_, ?_⟩; (focus (clear hD; obtain ⟨b0, b1, b2, b3, b4, b5, b6, b7⟩ := box8 (hC.blk _ List.mem_cons_self); clear hC; go_simp; first | done | with_reducible rfl)); try simp only [Act.put, List.setIfInBounds_toArray, List.set_cons_zero, List.set_cons_succ]))
  refine calm_call _ _ (by rfl) (by rfl) ?_ ?_
  focus
    apply Exists.intro
    apply Exists.intro
    refine ⟨fun wc hC hD => ?_, fun wc hC hD => ?_⟩
    focus (clear hD; obtain ⟨b0, b1, b2, b3, b4, b5, b6, b7⟩ := box8 (hC.blk _ List.mem_cons_self); clear hC; go_simp; first | done | with_reducible exact ⟨rfl, rfl⟩ | with_reducible rfl)
    clear hD
    with_reducible refine (impl_idBytes x.l _ hl).mono ?_
    rintro e wx ⟨rfl, hb⟩
    exact ⟨_, rfl, hb, rfl, trivial⟩
  rintro _ rfl
  try simp only [Act.put, List.setIfInBounds_toArray, List.set_cons_zero, List.set_cons_succ]
  repeat (first
    | (refine calm_skip (by rfl) ?_; try simp only [Act.put, List.setIfInBounds_toArray, List.set_cons_zero, List.set_cons_succ])
    | (refine calm_plain (by rfl) (by rfl) ?_; apply Exists.intro; refine ⟨fun wc hC hD => ?_, ?_⟩; (focus (clear hD; obtain ⟨b0, b1, b2, b3, b4, b5, b6, b7⟩ := box8 (hC.blk _ List.mem_cons_self); clear hC; go_simp; first | done | with_reducible rfl)); try simp only [Act.put, List.setIfInBounds_toArray, List.set_cons_zero, List.set_cons_succ]))
  refine calm_call _ _ (by rfl) (by rfl) ?_ ?_
  focus
    apply Exists.intro
    apply Exists.intro
    refine ⟨fun wc hC hD => ?_, fun wc hC hD => ?_⟩
    focus (clear hD; obtain ⟨b0, b1, b2, b3, b4, b5, b6, b7⟩ := box8 (hC.blk _ List.mem_cons_self); clear hC; go_simp; first | done | with_reducible exact ⟨rfl, rfl⟩ | with_reducible rfl)
    clear hD
    with_reducible refine (impl_idBytes x.r _ hr).mono ?_
    rintro e wx ⟨rfl, hb⟩
    exact ⟨_, rfl, hb, rfl, trivial⟩
  rintro _ rfl
  try simp only [Act.put, List.setIfInBounds_toArray, List.set_cons_zero, List.set_cons_succ]
  repeat (first
    | (refine calm_skip (by rfl) ?_; try simp only [Act.put, List.setIfInBounds_toArray, List.set_cons_zero, List.set_cons_succ])
    | (refine calm_plain (by rfl) (by rfl) ?_; apply Exists.intro; refine ⟨fun wc hC hD => ?_, ?_⟩; (focus (clear hD; obtain ⟨b0, b1, b2, b3, b4, b5, b6, b7⟩ := box8 (hC.blk _ List.mem_cons_self); clear hC; go_simp; first | done | with_reducible rfl)); try simp only [Act.put, List.setIfInBounds_toArray, List.set_cons_zero, List.set_cons_succ]))
  refine calm_call _ _ (by rfl) (by rfl) ?_ ?_
  focus
    apply Exists.intro
    apply Exists.intro
    refine ⟨fun wc hC hD => ?_, fun wc hC hD => ?_⟩
    focus (clear hD; obtain ⟨b0, b1, b2, b3, b4, b5, b6, b7⟩ := box8 (hC.blk _ List.mem_cons_self); clear hC; go_simp; first | done | with_reducible exact ⟨rfl, rfl⟩ | with_reducible rfl)
    clear hD
    with_reducible refine (impl_joined (idBy x.l) (idBy x.r) _ (by have := idBy_size x.l; omega) (by have := idBy_size x.r; omega)).mono ?_
    rintro e wx ⟨rfl, hb⟩
    exact ⟨_, rfl, hb, rfl, trivial⟩
  rintro _ rfl
  try simp only [Act.put, List.setIfInBounds_toArray, List.set_cons_zero, List.set_cons_succ]
  repeat (first
    | (refine calm_skip (by rfl) ?_; try simp only [Act.put, List.setIfInBounds_toArray, List.set_cons_zero, List.set_cons_succ])
    | (refine calm_plain (by rfl) (by rfl) ?_; apply Exists.intro; refine ⟨fun wc hC hD => ?_, ?_⟩; (focus (clear hD; obtain ⟨b0, b1, b2, b3, b4, b5, b6, b7⟩ := box8 (hC.blk _ List.mem_cons_self); clear hC; go_simp; first | done | with_reducible rfl)); try simp only [Act.put, List.setIfInBounds_toArray, List.set_cons_zero, List.set_cons_succ]))
  refine calm_end ?_
  intro w7 hL7 hF7
  clear hF7
  replace HL := Lib.hid hL7
  clear hL7
  go_upto_region 2 with fail
  refine wp_region_calm_lg (told [(2, fun u => u = .string (idBy x.i)), (4, fun u => u = .string (catB (idBy x.i) (catB (idBy x.l) (idBy x.r)))), (7, fun u => u = .string (putTextB x.t)), (8, fun u => u = .string (catB (catB (idBy x.i) (catB (idBy x.l) (idBy x.r))) (putTextB x.t)))]) (by kernel_rfl) (by kernel_rfl) (told_mono _) HL.out ?_
  repeat (first
    | (refine calm_skip (by rfl) ?_; try simp only [Act.put, List.setIfInBounds_toArray, List.set_cons_zero, List.set_cons_succ])
    | (refine calm_plain (by rfl) (by rfl) ?_; apply Exists.intro; refine ⟨fun wc hC hD => ?_, ?_⟩; (focus (clear hD; obtain ⟨b0, b1, b2, b3, b4, b5, b6, b7⟩ := box8 (hC.blk _ List.mem_cons_self); clear hC; go_simp; first | done | with_reducible rfl)); try simp only [Act.put, List.setIfInBounds_toArray, List.set_cons_zero, List.set_cons_succ]))
  refine calm_call _ _ (by rfl) (by rfl) ?_ ?_
  focus
    apply Exists.intro
    apply Exists.intro
    refine ⟨fun wc hC hD => ?_, fun wc hC hD => ?_⟩
    focus (clear hD; obtain ⟨b0, b1, b2, b3, b4, b5, b6, b7⟩ := box8 (hC.blk _ List.mem_cons_self); clear hC; go_simp; first | done | with_reducible exact ⟨rfl, rfl⟩ | with_reducible rfl)
    clear hD
    with_reducible refine (impl_idBytes x.i _ hi).mono ?_
    rintro e wx ⟨rfl, hb⟩
    exact ⟨_, rfl, hb, rfl, trivial⟩
  rintro _ rfl
  try simp only [Act.put, List.setIfInBounds_toArray, List.set_cons_zero, List.set_cons_succ]
  repeat (first
    | (refine calm_skip (by rfl) ?_; try simp only [Act.put, List.setIfInBounds_toArray, List.set_cons_zero, List.set_cons_succ])
    | (refine calm_plain (by rfl) (by rfl) ?_; apply Exists.intro; refine ⟨fun wc hC hD => ?_, ?_⟩; (focus (clear hD; obtain ⟨b0, b1, b2, b3, b4, b5, b6, b7⟩ := box8 (hC.blk _ List.mem_cons_self); clear hC; go_simp; first | done | with_reducible rfl)); try simp only [Act.put, List.setIfInBounds_toArray, List.set_cons_zero, List.set_cons_succ]))
  refine calm_call _ _ (by rfl) (by rfl) ?_ ?_
  focus
    apply Exists.intro
    apply Exists.intro
    refine ⟨fun wc hC hD => ?_, fun wc hC hD => ?_⟩
    focus (clear hD; obtain ⟨b0, b1, b2, b3, b4, b5, b6, b7⟩ := box8 (hC.blk _ List.mem_cons_self); clear hC; go_simp; first | done | with_reducible exact ⟨rfl, rfl⟩ | with_reducible rfl)
    clear hD
    with_reducible refine (impl_joined (idBy x.i) (catB (idBy x.l) (idBy x.r)) _ (by have := idBy_size x.i; omega) (by have := idBy_size x.l; have := idBy_size x.r; rw [catB_size]; omega)).mono ?_
    rintro e wx ⟨rfl, hb⟩
    exact ⟨_, rfl, hb, rfl, trivial⟩
  rintro _ rfl
  try simp only [Act.put, List.setIfInBounds_toArray, List.set_cons_zero, List.set_cons_succ]
  repeat (first
    | (refine calm_skip (by rfl) ?_; try simp only [Act.put, List.setIfInBounds_toArray, List.set_cons_zero, List.set_cons_succ])
    | (refine calm_plain (by rfl) (by rfl) ?_; apply Exists.intro; refine ⟨fun wc hC hD => ?_, ?_⟩; (focus (clear hD; obtain ⟨b0, b1, b2, b3, b4, b5, b6, b7⟩ := box8 (hC.blk _ List.mem_cons_self); clear hC; go_simp; first | done | with_reducible rfl)); try simp only [Act.put, List.setIfInBounds_toArray, List.set_cons_zero, List.set_cons_succ]))
  refine calm_call _ _ (by rfl) (by rfl) ?_ ?_
  focus
    apply Exists.intro
    apply Exists.intro
    refine ⟨fun wc hC hD => ?_, fun wc hC hD => ?_⟩
    focus (clear hD; obtain ⟨b0, b1, b2, b3, b4, b5, b6, b7⟩ := box8 (hC.blk _ List.mem_cons_self); clear hC; go_simp; first | done | with_reducible exact ⟨rfl, rfl⟩ | with_reducible rfl)
    clear hD
    with_reducible refine (impl_puttext x.t _ (by have := ht; omega)).mono ?_
    rintro e wx ⟨rfl, hb⟩
    exact ⟨_, rfl, hb, rfl, trivial⟩
  rintro _ rfl
  try simp only [Act.put, List.setIfInBounds_toArray, List.set_cons_zero, List.set_cons_succ]
  repeat (first
    | (refine calm_skip (by rfl) ?_; try simp only [Act.put, List.setIfInBounds_toArray, List.set_cons_zero, List.set_cons_succ])
    | (refine calm_plain (by rfl) (by rfl) ?_; apply Exists.intro; refine ⟨fun wc hC hD => ?_, ?_⟩; (focus (clear hD; obtain ⟨b0, b1, b2, b3, b4, b5, b6, b7⟩ := box8 (hC.blk _ List.mem_cons_self); clear hC; go_simp; first | done | with_reducible rfl)); try simp only [Act.put, List.setIfInBounds_toArray, List.set_cons_zero, List.set_cons_succ]))
  refine calm_call _ _ (by rfl) (by rfl) ?_ ?_
  focus
    apply Exists.intro
    apply Exists.intro
    refine ⟨fun wc hC hD => ?_, fun wc hC hD => ?_⟩
    focus (clear hD; obtain ⟨b0, b1, b2, b3, b4, b5, b6, b7⟩ := box8 (hC.blk _ List.mem_cons_self); clear hC; go_simp; first | done | with_reducible exact ⟨rfl, rfl⟩ | with_reducible rfl)
    clear hD
    with_reducible refine (impl_joined (catB (idBy x.i) (catB (idBy x.l) (idBy x.r))) (putTextB x.t) _ (by have := idBy_size x.i; have := idBy_size x.l; have := idBy_size x.r; simp only [catB_size]; omega) (by have := putNumB_small x.t.size; have := ht; unfold putTextB; rw [catB_size]; omega)).mono ?_
    rintro e wx ⟨rfl, hb⟩
    exact ⟨_, rfl, hb, rfl, trivial⟩
  rintro _ rfl
  try simp only [Act.put, List.setIfInBounds_toArray, List.set_cons_zero, List.set_cons_succ]
  repeat (first
    | (refine calm_skip (by rfl) ?_; try simp only [Act.put, List.setIfInBounds_toArray, List.set_cons_zero, List.set_cons_succ])
    | (refine calm_plain (by rfl) (by rfl) ?_; apply Exists.intro; refine ⟨fun wc hC hD => ?_, ?_⟩; (focus (clear hD; obtain ⟨b0, b1, b2, b3, b4, b5, b6, b7⟩ := box8 (hC.blk _ List.mem_cons_self); clear hC; go_simp; first | done | with_reducible rfl)); try simp only [Act.put, List.setIfInBounds_toArray, List.set_cons_zero, List.set_cons_succ]))
  refine calm_end ?_
  intro w7 hL7 hF7
  clear hF7
  replace HL := Lib.hid hL7
  clear hL7
  go_wp2
  go_ret
  exact ⟨by unfold itemBy; rw [catB_assoc (idBy x.i) (idBy x.l) (idBy x.r)]; rfl, HL.out.bel⟩

set_option maxRecDepth 100000 in
set_option maxHeartbeats 8000000 in
theorem impl_listItems (v : Value) (l : List Im) (w : World) (hv : Sl w w.heap.size 8 encM v l) (hl : l.length ≤ 1000) (hp : ∀ x ∈ l, TextP x) :
    Calls Try.prog 106 #[v, .func (.func 107) #[] #[]] w (Back (.string (rowBy itemBy l)) w) := by
  obtain ⟨A, c, rfl⟩ := hv.form
  have HV := Lib.hid hv; have HP := Lib.hid hp; clear hv hp
  have HN := Lib.hid (fun W => impl_putnum (l.length : Int) W (by omega) (by omega))
  have hL0 := (Lg.start w).alloc (.cells #[.pointer none, .slice none 0 0] 81)
  have HB0 := Lib.hid (show Lib.IsBuilder 81 5 w.heap.size w.heap.size [] (w.alloc (.cells #[.pointer none, .slice none 0 0] 81)) from .inl ⟨Nat.le_refl _, .slice none 0 0, hL0.blk _ List.mem_cons_self, World.ownsRow_nil _ _ _ _, by simp [Value.ownBlock]⟩)
  have HBW := Lib.hid hL0.bel; clear hL0
  go_enter Try.func106, Try.ntmps106
  go_wp2_with fail
  refine (HN.out _).mono ?_
  rintro e w1 ⟨rfl, hb⟩
  have HBD := Lib.hid (bld_lift HB0.out hb)
  replace HBW := Lib.hid (show Below w.heap.size w w1 from HBW.out.trans (hb.mono HBW.out.size))
  clear hb HB0
  have HW := Lib.hid (bld_write _ _ _ (putNumB l.length) w1 HBD.out (by have := putNumB_small l.length; simp; omega) HBW.out.size)
  go_wp2_with fail
  refine (HW.out).mono ?_
  rintro e w2 ⟨rfl, h2, hb, -⟩
  have HBD2 := Lib.hid (show Lib.IsBuilder 81 5 w.heap.size w.heap.size (Lib.byteCells (rowTo itemBy l 0).data.toList) w2 from .inr (by rw [rowTo_zero]; exact h2))
  replace HBW := Lib.hid (show Below w.heap.size w w2 from HBW.out.trans hb)
  clear h2 hb HBD HW
  go_wp2
  go_loopw [14] (fun i wr => ∃ k : Nat, k ≤ l.length ∧ i = .int .i64 k ∧ Lib.IsBuilder 81 5 w.heap.size w.heap.size (Lib.byteCells (rowTo itemBy l k).data.toList) wr ∧ Below w.heap.size w wr) (fun i _ => l.length - (intOf i).toNat)
  case atStart => exact ⟨0, Nat.zero_le _, rfl, HBD2.out, HBW.out⟩
  case round =>
    clear HBD2 HBW
    obtain ⟨k, hk, rfl, hbd, hbw⟩ := hrel
    have HBD := Lib.hid hbd; have HBW := Lib.hid hbw; clear hbd hbw
    by_cases hlt : k < l.length
    case neg =>
      obtain rfl : k = l.length := by omega
      have HST := Lib.hid (bld_string _ _ _ wr HBD.out HBW.out.size)
      go_wp2_with fail
      refine (HST.out).mono ?_
      rintro e w5 ⟨rfl, hb5⟩
      have HB5 := Lib.hid (HBW.out.trans hb5)
      clear hb5
      go_wp2
      go_ret
      exact ⟨by first | rfl | (rw [rowTo_all]; rfl), HB5.out⟩
    obtain ⟨ad, c', e', _, c0, c1, c2, c3, c4, c5, c6, c7⟩ := (HV.out.below HBW.out).item k hlt
    simp only [Value.slice.injEq, true_and] at e'
    obtain ⟨rfl, rfl⟩ := e'
    have hpx := HP.out _ (List.getElem_mem hlt)
    have HS := Lib.hid (rowTo_succ itemBy hlt)
    obtain ⟨x, hx⟩ : ∃ x, x = l[k] := ⟨_, rfl⟩
    rw [← hx] at c0 c1 c2 c3 c4 c5 c6 c7 hpx HS
    clear hx
    have hsx := itemBy_small x hpx
    have hsr := rowTo_small itemBy l k hk (fun y hy => itemBy_small y (HP.out y hy))
    have HC := Lib.hid (fun W => impl_itemBytes x W hpx)
    have HBD3 := Lib.hid (bld_lift HBD.out ((Below.refl wr.heap.size wr).alloc (Nat.le_refl _) (.cells #[.int .i64 x.i.c, .int .i64 x.i.k, .int .i64 x.l.c, .int .i64 x.l.k, .int .i64 x.r.c, .int .i64 x.r.k, .string x.t, .bool x.g] 91)))
    have HBA := Lib.hid (show Below w.heap.size w (wr.alloc (.cells #[.int .i64 x.i.c, .int .i64 x.i.k, .int .i64 x.l.c, .int .i64 x.l.k, .int .i64 x.r.c, .int .i64 x.r.k, .string x.t, .bool x.g] 91)) from HBW.out.alloc HBW.out.size _)
    clear HBD hpx
    go_wp2_with fail
    refine (HC.out _).mono ?_
    rintro e w4 ⟨rfl, hb⟩
    replace HBD3 := Lib.hid (bld_lift HBD3.out hb)
    replace HBA := Lib.hid (show Below w.heap.size w w4 from HBA.out.trans (hb.mono HBA.out.size))
    clear hb c0 c1 c2 c3 c4 c5 c6 c7
    have HW := Lib.hid (bld_write _ _ _ (itemBy x) w4 HBD3.out (by rw [Lib.byteCells_length, ← Lib.size_eq]; omega) HBA.out.size)
    go_wp2_with fail
    refine (HW.out).mono ?_
    rintro e w5 ⟨rfl, h5, hb, -⟩
    have HBD5 := Lib.hid (show Lib.IsBuilder 81 5 w.heap.size w.heap.size (Lib.byteCells (rowTo itemBy l (k + 1)).data.toList) w5 from .inr (by rw [HS.out]; rw [catB_cells]; exact h5))
    replace HBA := Lib.hid (show Below w.heap.size w w5 from HBA.out.trans hb)
    clear h5 hb
    go_wp2
    go_roundw
    case rel => exact ⟨k + 1, by omega, by go_num, HBD5.out, HBA.out⟩
    case measure => simp [intOf]; omega

set_option maxRecDepth 100000 in
set_option maxHeartbeats 8000000 in
theorem impl_listIds (v : Value) (l : List Nm) (w : World) (hv : Sl w w.heap.size 2 encN v l) (hl : l.length ≤ 1000) (hp : ∀ x ∈ l, HeldN x) :
    Calls Try.prog 108 #[v, .func (.func 109) #[] #[]] w (Back (.string (rowBy idBy l)) w) := by
  obtain ⟨A, c, rfl⟩ := hv.form
  have HV := Lib.hid hv; have HP := Lib.hid hp; clear hv hp
  have HN := Lib.hid (fun W => impl_putnum (l.length : Int) W (by omega) (by omega))
  have hL0 := (Lg.start w).alloc (.cells #[.pointer none, .slice none 0 0] 81)
  have HB0 := Lib.hid (show Lib.IsBuilder 81 5 w.heap.size w.heap.size [] (w.alloc (.cells #[.pointer none, .slice none 0 0] 81)) from .inl ⟨Nat.le_refl _, .slice none 0 0, hL0.blk _ List.mem_cons_self, World.ownsRow_nil _ _ _ _, by simp [Value.ownBlock]⟩)
  have HBW := Lib.hid hL0.bel; clear hL0
  go_enter Try.func108, Try.ntmps108
  go_wp2_with fail
  refine (HN.out _).mono ?_
  rintro e w1 ⟨rfl, hb⟩
  have HBD := Lib.hid (bld_lift HB0.out hb)
  replace HBW := Lib.hid (show Below w.heap.size w w1 from HBW.out.trans (hb.mono HBW.out.size))
  clear hb HB0
  have HW := Lib.hid (bld_write _ _ _ (putNumB l.length) w1 HBD.out (by have := putNumB_small l.length; simp; omega) HBW.out.size)
  go_wp2_with fail
  refine (HW.out).mono ?_
  rintro e w2 ⟨rfl, h2, hb, -⟩
  have HBD2 := Lib.hid (show Lib.IsBuilder 81 5 w.heap.size w.heap.size (Lib.byteCells (rowTo idBy l 0).data.toList) w2 from .inr (by rw [rowTo_zero]; exact h2))
  replace HBW := Lib.hid (show Below w.heap.size w w2 from HBW.out.trans hb)
  clear h2 hb HBD HW
  go_wp2
  go_loopw [14] (fun i wr => ∃ k : Nat, k ≤ l.length ∧ i = .int .i64 k ∧ Lib.IsBuilder 81 5 w.heap.size w.heap.size (Lib.byteCells (rowTo idBy l k).data.toList) wr ∧ Below w.heap.size w wr) (fun i _ => l.length - (intOf i).toNat)
  case atStart => exact ⟨0, Nat.zero_le _, rfl, HBD2.out, HBW.out⟩
  case round =>
    clear HBD2 HBW
    obtain ⟨k, hk, rfl, hbd, hbw⟩ := hrel
    have HBD := Lib.hid hbd; have HBW := Lib.hid hbw; clear hbd hbw
    by_cases hlt : k < l.length
    case neg =>
      obtain rfl : k = l.length := by omega
      have HST := Lib.hid (bld_string _ _ _ wr HBD.out HBW.out.size)
      go_wp2_with fail
      refine (HST.out).mono ?_
      rintro e w5 ⟨rfl, hb5⟩
      have HB5 := Lib.hid (HBW.out.trans hb5)
      clear hb5
      go_wp2
      go_ret
      exact ⟨by first | rfl | (rw [rowTo_all]; rfl), HB5.out⟩
    obtain ⟨ad, c', e', _, c0, c1⟩ := (HV.out.below HBW.out).two k hlt
    simp only [Value.slice.injEq, true_and] at e'
    obtain ⟨rfl, rfl⟩ := e'
    have hpx := HP.out _ (List.getElem_mem hlt)
    have HS := Lib.hid (rowTo_succ idBy hlt)
    obtain ⟨x, hx⟩ : ∃ x, x = l[k] := ⟨_, rfl⟩
    rw [← hx] at c0 c1 hpx HS
    clear hx
    have hsx := idBy_small x hpx
    have hsr := rowTo_small idBy l k hk (fun y hy => idBy_small y (HP.out y hy))
    have HC := Lib.hid (fun W => impl_idBytes x W hpx)
    have HBD3 := Lib.hid (bld_lift HBD.out ((Below.refl wr.heap.size wr).alloc (Nat.le_refl _) (.cells #[.int .i64 x.c, .int .i64 x.k] 89)))
    have HBA := Lib.hid (show Below w.heap.size w (wr.alloc (.cells #[.int .i64 x.c, .int .i64 x.k] 89)) from HBW.out.alloc HBW.out.size _)
    clear HBD hpx
    go_wp2_with fail
    refine (HC.out _).mono ?_
    rintro e w4 ⟨rfl, hb⟩
    replace HBD3 := Lib.hid (bld_lift HBD3.out hb)
    replace HBA := Lib.hid (show Below w.heap.size w w4 from HBA.out.trans (hb.mono HBA.out.size))
    clear hb c0 c1
    have HW := Lib.hid (bld_write _ _ _ (idBy x) w4 HBD3.out (by rw [Lib.byteCells_length, ← Lib.size_eq]; omega) HBA.out.size)
    go_wp2_with fail
    refine (HW.out).mono ?_
    rintro e w5 ⟨rfl, h5, hb, -⟩
    have HBD5 := Lib.hid (show Lib.IsBuilder 81 5 w.heap.size w.heap.size (Lib.byteCells (rowTo idBy l (k + 1)).data.toList) w5 from .inr (by rw [HS.out]; rw [catB_cells]; exact h5))
    replace HBA := Lib.hid (show Below w.heap.size w w5 from HBA.out.trans hb)
    clear h5 hb
    go_wp2
    go_roundw
    case rel => exact ⟨k + 1, by omega, by go_num, HBD5.out, HBA.out⟩
    case measure => simp [intOf]; omega

end Go.Proofs.Ytaggmcdfggmlhaa
