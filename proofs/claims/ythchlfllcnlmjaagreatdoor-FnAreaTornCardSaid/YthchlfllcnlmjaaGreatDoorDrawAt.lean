/-
  The draws of a disk: a list of numbers; facts on drawn disks; the ledger of a disk's draw.
-/
import Derived.Test.YthchlfllcnlmjaaGreatDoorDraws
import Derived.Test.YthchlfllcnlmjaaGreatDoorBase1
import Derived.Test.YthchlfllcnlmjaaGreatDoorIntsA
import Derived.Test.YthchlfllcnlmjaaGreatDoorRite
import Derived.Test.YthchlfllcnlmjaaGreatDoorBase2
import Derived.Test.YthchlfllcnlmjaaGreatDoorWriteS
import Derived.Test.YthchlfllcnlmjaaGreatDoorFlush
/-! The draw of a list of numbers: l02Keep. -/
namespace Go.Proofs.YthchlfllcnlmjaaGreatDoor
open Go.ChangeShapes Go.WideShapes Go.ChangeAt Go.RowKit

theorem intType : SlType Tryz.prog 37 2 1 8 := sl_type Tryz.underlying37 infoI64 rfl (by omega)
theorem encI_one : ∀ x, ∀ u ∈ encI x, u.oneCell' = true := fun x u hu => by simp [encI] at hu; subst hu; rfl

/-- A list of some numbers of the call's own. -/
def SomeKeep (w : World) (S : Nat) (cv : Value) (len : Nat) (e : Ending) (w' : World) : Prop :=
  ∃ (v : Value) (l : List Int), e = .returned v ∧ Ow w' w.heap.size 2 1 encI v l ∧ l.length ≤ 14 ∧ w.grownBy w' (some S) ∧ Src w' S cv len

set_option maxRecDepth 100000 in
set_option maxHeartbeats 2000000 in
theorem draw_keep (S : Nat) (cv : Value) (len : Nat) (w : World) (hS : Src w S cv len) (hC : Code w S cv len) :
    Calls Tryz.prog 57 #[.pointer (some ⟨S, 0, none⟩)] w (SomeKeep w S cv len) := by
  have HS := Lib.hid hS; have HC := Lib.hid hC
  have hSl : S < w.heap.size := hS.lt
  clear hS hC
  go_enter Tryz.func57, Tryz.ntmps57
  go_wp2_with fail
  refine (draw_n S cv len 14 _ (HS.out.keep (Below.heap_alloc _ _ _ hSl)) (HC.out.on (World.grownBy_alloc _ _ _)) (by omega) (by omega)).mono ?_
  rintro e w1 ⟨r, rfl, r0, r1, hg1, hS1⟩
  have HG1 := Lib.hid (grown_trans (World.grownBy_alloc w (.cells #[] 2) (some S)) hg1)
  have HS1 := Lib.hid hS1
  have HO1 := Lib.hid (World.ownsRow.kept (own_empty (heap_alloc_new w (.cells #[] 2)) w.heap.size 1 (Nat.le_refl _)) hg1 (.inr (fun e => by have e' : w.heap.size = S := Option.some.inj e; omega)))
  have hz1 := hg1.size
  simp only [World.size_alloc] at hz1
  clear hg1 hS1
  obtain ⟨n, rfl⟩ := Int.eq_ofNat_of_zero_le r0
  go_wp2
  go_loopw [3, 4] (fun v i wr => ∃ (k m : Nat) (A : Option Addr) (c : Nat) (l : List Int), i = .int .i64 (k : Int) ∧ v = .slice A m c ∧ m = l.length ∧ k + m ≤ 14 ∧ wr.ownsRow w.heap.size 2 1 (.slice A m c) m (l.flatMap encI) ∧ w.grownBy wr (some S) ∧ Src wr S cv len) (fun _ i _ => (intOf i).toNat)
  case atStart => exact ⟨n, 0, _, _, [], rfl, rfl, rfl, by omega, HO1.out, HG1.out, HS1.out⟩
  case round =>
    clear HG1 HS1 HO1 hz1
    obtain ⟨k, m, A, c, l, rfl, rfl, hm, hk, ho, hg, hs⟩ := hrel
    have HM := Lib.hid hm
    have hm1 : m ≤ 14 := by omega
    have HO := Lib.hid ho; have HG := Lib.hid hg; have HSR := Lib.hid hs
    have hzr := hg.size
    clear hm ho hg hs
    by_cases hlt : 0 < k
    · have HCR := Lib.hid (HC.out.on HG.out)
      go_wp2_with fail
      refine (draw_n S cv len 2 _ HSR.out HCR.out (by omega) (by omega)).mono ?_
      rintro e w2 ⟨q, rfl, q0, q1, hg2, hS2⟩
      have HG2 := Lib.hid (grown_trans HG.out hg2)
      have HS2 := Lib.hid hS2
      have HO2 := Lib.hid (World.ownsRow.kept HO.out hg2 (by
        cases h : (Value.slice A m c).ownBlock with
        | none => exact .inl rfl
        | some g => exact .inr (fun e => by have := (World.ownsRow.lt HO.out g h).1; have e' : g = S := Option.some.inj e; omega)))
      have hz2 := hg2.size
      clear hg2 hS2
      go_wp2_with (at_builtin; refine list_append_sl intType _ rfl (.tmp 12) (.tmp 15) rfl w.heap.size (.slice A m c) m _ rfl (World.ownsRow.alloc HO2.out _) _ encI _ [q] rfl (sl_single (heap_at rfl) 1 encI q rfl) encI_len encI_one (by simp; unfold maxLen; omega) (by simp; omega) (by simp; omega) ?_; intro v3 w3 g3; obtain ⟨A', c', rfl⟩ := g3.form; have GO := Lib.hid g3.1; have GG := Lib.hid g3.2.1; clear g3)
      go_roundw
      case rel =>
        have hy : w.grownBy w3 (some S) := by
          refine grownBy_young (grownBy_young HG2.out (World.grownBy_alloc w2 (.cells #[.int .i64 q] 2) none) (fun j hj => by cases hj)) GG.out (fun j hj => (World.ownsRow.lt HO2.out j hj).1)
        refine ⟨k - 1, m + 1, A', c', l ++ [q], ?_, rfl, by rw [List.length_append, ← HM.out]; rfl, by omega, by rw [List.flatMap_append]; exact GO.out, hy, ?_⟩
        · have : ((k - 1 : Nat) : Int) = (k : Int) - 1 := by omega
          rw [this]
        · refine HS2.out.keep ?_
          rw [GG.out.block S (by simp; have := HS2.out.lt; omega) (fun e => by have := (World.ownsRow.lt HO2.out S e.symm).1; omega), Below.heap_alloc _ _ _ HS2.out.lt]
      case measure => simp [intOf]; omega
    · have hk0 : k = 0 := by omega
      subst hk0
      go_wp2
      go_ret
      exact ⟨_, l, rfl, by unfold Ow; rw [← HM.out]; exact HO.out, by have := HM.out; omega, HG.out, HSR.out⟩

end Go.Proofs.YthchlfllcnlmjaaGreatDoor

/-! Contract of the model's DiskNew. -/
namespace Go.Proofs.YthchlfllcnlmjaaGreatDoor
open Go.ChangeShapes Go.WideShapes Go.ChangeAt Go.RowKit

theorem heap_new2 (w : World) (o o' : Obj) : ((w.alloc o).alloc o').heap[w.heap.size + 1]? = some o' := by
  have h := heap_alloc_new (w.alloc o) o'
  rwa [World.size_alloc] at h
/-- A new disk. -/
def newDk (n : Int) : Dk := if 1 ≤ n ∧ n ≤ 64 then ⟨List.replicate n.toNat ⟨#[]⟩, []⟩ else ⟨[], []⟩
theorem newDk_yes (n : Int) (h : 1 ≤ n ∧ n ≤ 64) : newDk n = ⟨List.replicate n.toNat ⟨#[]⟩, []⟩ := if_pos h
theorem newDk_no (n : Int) (h : ¬ (1 ≤ n ∧ n ≤ 64)) : newDk n = ⟨[], []⟩ := if_neg h
theorem newDk_S (n : Int) : (newDk n).S.length ≤ 64 := by
  unfold newDk
  split
  · simp; omega
  · simp
theorem newDk_P (n : Int) : (newDk n).P = [] := by
  unfold newDk
  split <;> rfl
theorem own_none {α : Type} (w : World) (base : Nat) (E : TypeId) (k : Nat) (enc : α → List Value) : Ow w base E k enc (.slice none 0 0) ([] : List α) := World.ownsRow_nil w base E k
theorem made_texts (n : Nat) : (madeCells (Value.string ⟨#[]⟩).cells (n * 1)).toList = (List.replicate n (⟨#[]⟩ : ByteArray)).flatMap encS := by
  have e : (Value.string ⟨#[]⟩).cells = #[.string ⟨#[]⟩] := rfl
  rw [Nat.mul_one, e, toList_madeCells_one, flat_one Value.string, List.map_replicate]

set_option maxRecDepth 100000 in
theorem spec_disknew (n : Int) (w : World) : Calls Tryz.prog 71 #[.int .i64 n] w (OwnsDk w (newDk n)) := by
  by_cases h : 1 ≤ n ∧ n ≤ 64
  · have HE := Lib.hid (newDk_yes n h)
    obtain ⟨h1, h2⟩ := h
    obtain ⟨m, rfl⟩ := Int.eq_ofNat_of_zero_le (show 0 ≤ n by omega)
    obtain ⟨M, hM, hMs, hmk⟩ := make_row 23 9 _ 1 16 Tryz.underlying23 infoStr m (by omega) (by omega)
    have HM := Lib.hid hM; have HMs := Lib.hid hMs; clear hM hMs
    go_enter Tryz.func71, Tryz.ntmps71
    go_wp2_with (go_at_call 86; refine (spec_is_yes _ _ _ _ (by omega) (by omega)).mono ?_; rintro e w' ⟨rfl, rfl⟩)
    refine bodyPost_ret (v := .agg #[.slice (some ⟨w.heap.size + 1, 0, none⟩) m m, .slice none 0 0]) (by simp [results, Tryz.results71, go_sem]) rfl ⟨_, rfl, ⟨_, _, rfl, ?_, ?_⟩, ?_⟩
    · rw [HE.out]
      unfold Ow
      simp only [Int.toNat_natCast, List.length_replicate]
      exact row_lit (g := w.heap.size + 1) (cs := M) (heap_new2 _ _ _) _ _ 1 (by omega) (by unfold maxLen; omega) HMs.out (by rw [HM.out, made_texts])
    · rw [HE.out]; exact own_none _ _ _ _ _
    · exact ((Below.refl _ _).alloc (Nat.le_refl _) _).alloc (by simp) _
  · have HE := Lib.hid (newDk_no n h)
    go_enter Tryz.func71, Tryz.ntmps71
    go_wp2_with (go_at_call 86; refine (spec_is_no _ _ _ _ h).mono ?_; rintro e w' ⟨rfl, rfl⟩)
    refine bodyPost_ret (v := .agg #[.slice none 0 0, .slice none 0 0]) (by simp [results, Tryz.results71, go_sem]) rfl ⟨_, rfl, ⟨_, _, rfl, ?_, ?_⟩, ?_⟩
    · rw [HE.out]; exact own_none _ _ _ _ _
    · rw [HE.out]; exact own_none _ _ _ _ _
    · exact (Below.refl _ _).alloc (Nat.le_refl _) _

end Go.Proofs.YthchlfllcnlmjaaGreatDoor

/-! Facts on drawn disks: what a write and a flush leave is right again. -/
namespace Go.Proofs.YthchlfllcnlmjaaGreatDoor
open Go.RowKit

theorem right_small {d : Dk} (h : Right d) : Small d := by
  obtain ⟨h1, h2, h3, h4, h5⟩ := h
  refine ⟨by omega, fun s hs => by have := h4 s hs; omega, by omega, fun p hp => by have := (h5 p hp).2.2; omega, fun p hp => ?_⟩
  have h6 := (h5 p hp).1
  have h7 := (h5 p hp).2.1
  omega
theorem newDk_right (n : Int) (h1 : 1 ≤ n) (h2 : n ≤ 64) : Right (newDk n) := by
  rw [newDk_yes n ⟨h1, h2⟩]
  refine ⟨by simp; omega, by simp; omega, by simp, fun s hs => ?_, by simp⟩
  have := (List.mem_replicate.1 hs).2
  subst this
  exact Nat.zero_le _
theorem write_good (d : Dk) (a : Int) (t : ByteArray) (h : (writeDo d a t).code = 0) : Right (writeDo d a t).dk := by
  by_cases h8 : 8000 < t.size
  · rw [write_size h8] at h; cases h
  · by_cases hR : Right d ∧ t.size ≤ 64
    · by_cases hA : 0 ≤ a ∧ a < d.S.length
      · by_cases hf : d.P.length = 200
        · rw [write_full hR.1 hR.2 hA hf] at h; cases h
        · rw [write_ok hR.1 hR.2 hA hf]
          obtain ⟨⟨r1, r2, r3, r4, r5⟩, r6⟩ := hR
          refine ⟨r1, r2, by simp; omega, r4, fun p hp => ?_⟩
          rcases List.mem_append.1 hp with hp | hp
          · exact r5 p hp
          · have : p = (a, t) := by simpa using hp
            subst this
            exact ⟨hA.1, hA.2, r6⟩
      · rw [write_range hR.1 hR.2 hA] at h; cases h
    · rw [write_form h8 hR] at h; cases h
theorem flushS_sizes (S : List ByteArray) (P : List Pd) (m : Nat) (h1 : ∀ s ∈ S, s.size ≤ m) (h2 : ∀ p ∈ P, p.2.size ≤ m) : ∀ s ∈ flushS S P, s.size ≤ m := by
  intro s hs
  obtain ⟨i, hi, rfl⟩ := List.getElem_of_mem hs
  have hi' : i < S.length := by rw [flushS_len] at hi; exact hi
  have e := flushS_get S P i hi'
  rw [List.getElem?_eq_getElem hi] at e
  rw [Option.some.inj e]
  cases hl : lastOf P (i : Int) with
  | none => exact h1 _ (List.getElem_mem hi')
  | some t => exact h2 _ (lastOf_mem P _ t hl)
theorem flush_good (d : Dk) (h : (flushDo d).code = 0) : Right (flushDo d).dk := by
  by_cases hR : Right d
  · rw [flush_ok hR]
    obtain ⟨r1, r2, r3, r4, r5⟩ := hR
    exact ⟨by simp only [flushS_len]; exact r1, by simp only [flushS_len]; exact r2, by simp, flushS_sizes _ _ 64 r4 (fun p hp => (r5 p hp).2.2), by simp⟩
  · rw [flush_form hR] at h; cases h

/-- The bounds of a drawn disk. -/
def Drawn (d : Dk) : Prop := d.S.length ≤ 64 ∧ (∀ s ∈ d.S, s.size ≤ 65) ∧ d.P.length ≤ 300 ∧ (∀ p ∈ d.P, p.2.size ≤ 65) ∧ ∀ p ∈ d.P, 0 ≤ p.1 ∧ p.1 ≤ 64
theorem Drawn.small {d : Dk} (h : Drawn d) : Small d := by
  obtain ⟨h1, h2, h3, h4, h5⟩ := h
  exact ⟨by omega, fun s hs => by have := h2 s hs; omega, by omega, fun p hp => by have := h4 p hp; omega, fun p hp => by have := (h5 p hp).1; have := (h5 p hp).2; omega⟩
theorem right_drawn {d : Dk} (h : Right d) : Drawn d := by
  obtain ⟨h1, h2, h3, h4, h5⟩ := h
  exact ⟨h2, fun s hs => by have := h4 s hs; omega, by omega, fun p hp => by have := (h5 p hp).2.2; omega, fun p hp => ⟨(h5 p hp).1, by have := (h5 p hp).2.1; omega⟩⟩

/-- A disk of the call's own, where only block S and new ones have changed. -/
theorem DkOw.by_ {w w' : World} {base S : Nat} {v : Value} {d : Dk} (h : DkOw w base v d) (hg : w.grownBy w' (some S)) (hS : S < base) : DkOw w' base v d :=
  h.kept (Within.of_grown (lo := S) (hi := S + 1) hg (fun g hg => by cases hg; omega)) (by omega)
theorem blk_by {w w' : World} {b S : Nat} {o : Obj} (h : w.heap[b]? = some o) (hg : w.grownBy w' (some S)) (hS : S < b) : w'.heap[b]? = some o := by
  rw [hg.block b (block_lt h) (fun e => by have := Option.some.inj e; omega)]
  exact h
theorem grown_set_far {w w1 : World} {r : Option Nat} (h : w.grownBy w1 r) (b k : Nat) (v : Value) (hb : w.heap.size ≤ b) : w.grownBy (w1.setCell ⟨b, k, none⟩ v) r :=
  grownBy_young h (grown_set w1 b k v) (fun j hj => by cases hj; exact hb)
theorem Src.far {w : World} {S : Nat} {cv : Value} {len : Nat} (h : Src w S cv len) (b k : Nat) (v : Value) (hb : S ≠ b) : Src (w.setCell ⟨b, k, none⟩ v) S cv len := h.keep (Below.heap_setCell _ _ _ _ hb)
theorem Src.below {w w' : World} {S : Nat} {cv : Value} {len : Nat} (h : Src w S cv len) (hb : Below w.heap.size w w') : Src w' S cv len := h.keep (hb.block S h.lt)

end Go.Proofs.YthchlfllcnlmjaaGreatDoor

/-! A ledger of the draw of a disk: the box that holds it, the box of the result, what it owns, what has grown, the source. -/
namespace Go.Proofs.YthchlfllcnlmjaaGreatDoor
open Go.RowKit

theorem Ow.type {α : Type} {w : World} {base : Nat} {e : TypeId} {k : Nat} {enc : α → List Value} {v : Value} {l : List α} (h : Ow w base e k enc v l) {b : Nat} {cs : Array Value} {T : TypeId} {f : Nat × Nat} (hb : w.heap[b]? = some (.cells cs T f)) (hT : T ≠ e) : ∀ g, v.ownBlock = some g → b ≠ g := by
  intro g hg he
  subst he
  rcases h.2 with ⟨rfl, _⟩ | ⟨g', cap, cur, rfl, _, hgg, _⟩
  · cases hg
  · simp [Value.ownBlock] at hg
    subst hg
    rw [hb] at hgg
    injection hgg with hgg
    injection hgg with _ ht
    exact hT ht
/-- A block of another type has been written. -/
theorem DkOw.beside {w : World} {base : Nat} {v : Value} {d : Dk} (h : DkOw w base v d) {b : Nat} {cs : Array Value} {T : TypeId} {f : Nat × Nat} (hb : w.heap[b]? = some (.cells cs T f)) (h1 : T ≠ 9) (h2 : T ≠ 84) (k : Nat) (u : Value) : DkOw (w.setCell ⟨b, k, none⟩ u) base v d := by
  obtain ⟨s, p, rfl, hs, hp⟩ := h
  exact ⟨s, p, rfl, hs.aside (hs.type hb h1) u, hp.aside (hp.type hb h2) u⟩

/-- Where the draw of a disk stands: the disk d in the box b. -/
structure At (w W : World) (S b : Nat) (cv : Value) (len : Nat) (s p : Value) (d : Dk) : Prop where
  src : Src W S cv len
  grown : w.grownBy W (some S)
  low : S < w.heap.size
  far : w.heap.size < b
  res : W.heap[w.heap.size]? = some (.cells #[.slice none 0 0, .slice none 0 0] 26 (0, 0))
  box : W.heap[b]? = some (.cells #[s, p] 26 (0, 0))
  own : DkOw W (w.heap.size + 1) (.agg #[s, p]) d

theorem At.by_ {w W W' : World} {S b : Nat} {cv : Value} {len : Nat} {s p : Value} {d : Dk} (h : At w W S b cv len s p d) (hg : W.grownBy W' (some S)) (hs : Src W' S cv len) : At w W' S b cv len s p d :=
  ⟨hs, grown_trans h.grown hg, h.low, h.far, blk_by h.res hg h.low, blk_by h.box hg (Nat.lt_trans h.low h.far), h.own.by_ hg (Nat.lt_succ_of_lt h.low)⟩
theorem At.below {w W W' : World} {S b : Nat} {cv : Value} {len : Nat} {s p : Value} {d : Dk} (h : At w W S b cv len s p d) (hb : Below W.heap.size W W') : At w W' S b cv len s p d :=
  ⟨h.src.below hb, grown_trans h.grown (grown_below hb _), h.low, h.far, keep_blk hb h.res, keep_blk hb h.box, h.own.lift hb⟩
theorem At.alloc {w W : World} {S b : Nat} {cv : Value} {len : Nat} {s p : Value} {d : Dk} (h : At w W S b cv len s p d) (o : Obj) : At w (W.alloc o) S b cv len s p d := h.below ((Below.refl _ _).alloc (Nat.le_refl _) _)
theorem At.drew {w W : World} {S b : Nat} {cv : Value} {len : Nat} {s p : Value} {d : Dk} (h : At w W S b cv len s p d) : At w W.drew S b cv len s p d := h.below (Below.refl W.heap.size W).drew
/-- A block beside has been written. -/
theorem At.other {w W : World} {S b : Nat} {cv : Value} {len : Nat} {s p : Value} {d : Dk} (h : At w W S b cv len s p d) {y : Nat} {cs : Array Value} {T : TypeId} {f : Nat × Nat} (hy : W.heap[y]? = some (.cells cs T f)) (h1 : T ≠ 9) (h2 : T ≠ 84) (hb : b < y) (k : Nat) (u : Value) : At w (W.setCell ⟨y, k, none⟩ u) S b cv len s p d := by
  have h3 := h.far
  have h4 := h.low
  exact ⟨h.src.far y k u (by omega), grown_set_far h.grown y k u (by omega), h.low, h.far, by rw [Below.heap_setCell _ _ _ _ (by simp only; omega)]; exact h.res, by rw [Below.heap_setCell _ _ _ _ (by simp only; omega)]; exact h.box, h.own.beside hy h1 h2 k u⟩
/-- The answer's box, all four cells written. -/
theorem At.other4 {w W : World} {S b : Nat} {cv : Value} {len : Nat} {s p : Value} {d : Dk} (h : At w W S b cv len s p d) {y : Nat} {x0 x1 x2 x3 : Value} (hy : W.heap[y]? = some (.cells #[x0, x1, x2, x3] 68 (0, 0))) (hb : b < y) (y0 y1 y2 y3 : Value) :
    At w ((((W.setCell ⟨y, 0, none⟩ y0).setCell ⟨y, 1, none⟩ y1).setCell ⟨y, 2, none⟩ y2).setCell ⟨y, 3, none⟩ y3) S b cv len s p d ∧ ((((W.setCell ⟨y, 0, none⟩ y0).setCell ⟨y, 1, none⟩ y1).setCell ⟨y, 2, none⟩ y2).setCell ⟨y, 3, none⟩ y3).heap[y]? = some (.cells #[y0, y1, y2, y3] 68 (0, 0))
    ∧ ∀ {base : Nat} {v : Value} {d' : Dk}, DkOw W base v d' → DkOw ((((W.setCell ⟨y, 0, none⟩ y0).setCell ⟨y, 1, none⟩ y1).setCell ⟨y, 2, none⟩ y2).setCell ⟨y, 3, none⟩ y3) base v d' := by
  have e0 : (W.setCell ⟨y, 0, none⟩ y0).heap[y]? = some (.cells #[y0, x1, x2, x3] 68 (0, 0)) := block_set hy 0 y0
  have e1 : ((W.setCell ⟨y, 0, none⟩ y0).setCell ⟨y, 1, none⟩ y1).heap[y]? = some (.cells #[y0, y1, x2, x3] 68 (0, 0)) := block_set e0 1 y1
  have e2 : (((W.setCell ⟨y, 0, none⟩ y0).setCell ⟨y, 1, none⟩ y1).setCell ⟨y, 2, none⟩ y2).heap[y]? = some (.cells #[y0, y1, y2, x3] 68 (0, 0)) := block_set e1 2 y2
  have e3 : ((((W.setCell ⟨y, 0, none⟩ y0).setCell ⟨y, 1, none⟩ y1).setCell ⟨y, 2, none⟩ y2).setCell ⟨y, 3, none⟩ y3).heap[y]? = some (.cells #[y0, y1, y2, y3] 68 (0, 0)) := block_set e2 3 y3
  exact ⟨(((h.other hy (by decide) (by decide) hb 0 y0).other e0 (by decide) (by decide) hb 1 y1).other e1 (by decide) (by decide) hb 2 y2).other e2 (by decide) (by decide) hb 3 y3, e3,
    fun k => (((k.beside hy (by decide) (by decide) 0 y0).beside e0 (by decide) (by decide) 1 y1).beside e1 (by decide) (by decide) 2 y2).beside e2 (by decide) (by decide) 3 y3⟩
/-- The box holds another disk. -/
theorem At.put {w W : World} {S b : Nat} {cv : Value} {len : Nat} {s p s' p' : Value} {d d' : Dk} (h : At w W S b cv len s p d) (ho : DkOw W (w.heap.size + 1) (.agg #[s', p']) d') : At w ((W.setCell ⟨b, 0, none⟩ s').setCell ⟨b, 1, none⟩ p') S b cv len s' p' d' := by
  have h3 := h.far
  have h4 := h.low
  have e0 : (W.setCell ⟨b, 0, none⟩ s').heap[b]? = some (.cells #[s', p] 26 (0, 0)) := block_set h.box 0 s'
  have e1 : ((W.setCell ⟨b, 0, none⟩ s').setCell ⟨b, 1, none⟩ p').heap[b]? = some (.cells #[s', p'] 26 (0, 0)) := block_set e0 1 p'
  exact ⟨(h.src.far b 0 s' (by omega)).far b 1 p' (by omega), grown_set_far (grown_set_far h.grown b 0 s' (by omega)) b 1 p' (by omega), h.low, h.far, by rw [Below.heap_setCell _ _ _ _ (by simp only; omega), Below.heap_setCell _ _ _ _ (by simp only; omega)]; exact h.res, e1,
    (ho.beside h.box (by decide) (by decide) 0 s').beside e0 (by decide) (by decide) 1 p'⟩
/-- One of the box's cells is written. -/
theorem At.put0 {w W : World} {S b : Nat} {cv : Value} {len : Nat} {s p s' : Value} {d d' : Dk} (h : At w W S b cv len s p d) (ho : DkOw W (w.heap.size + 1) (.agg #[s', p]) d') : At w (W.setCell ⟨b, 0, none⟩ s') S b cv len s' p d' := by
  have h3 := h.far
  have h4 := h.low
  exact ⟨h.src.far b 0 s' (by omega), grown_set_far h.grown b 0 s' (by omega), h.low, h.far, by rw [Below.heap_setCell _ _ _ _ (by simp only; omega)]; exact h.res, block_set h.box 0 s', ho.beside h.box (by decide) (by decide) 0 s'⟩
theorem At.put1 {w W : World} {S b : Nat} {cv : Value} {len : Nat} {s p p' : Value} {d d' : Dk} (h : At w W S b cv len s p d) (ho : DkOw W (w.heap.size + 1) (.agg #[s, p']) d') : At w (W.setCell ⟨b, 1, none⟩ p') S b cv len s p' d' := by
  have h3 := h.far
  have h4 := h.low
  exact ⟨h.src.far b 1 p' (by omega), grown_set_far h.grown b 1 p' (by omega), h.low, h.far, by rw [Below.heap_setCell _ _ _ _ (by simp only; omega)]; exact h.res, block_set h.box 1 p', ho.beside h.box (by decide) (by decide) 1 p'⟩

/-- A drawn disk of the call's own. -/
def SomeDisk (w : World) (S : Nat) (cv : Value) (len : Nat) (e : Ending) (w' : World) : Prop :=
  ∃ A1 c1 A2 c2 d, e = .returned (.agg #[.slice A1 d.S.length c1, .slice A2 d.P.length c2]) ∧ DkOw w' w.heap.size (.agg #[.slice A1 d.S.length c1, .slice A2 d.P.length c2]) d ∧ Drawn d ∧ w.grownBy w' (some S) ∧ Src w' S cv len
theorem At.done {w W : World} {S b : Nat} {cv : Value} {len : Nat} {A1 A2 : Option Addr} {c1 c2 : Nat} {d : Dk} (h : At w W S b cv len (.slice A1 d.S.length c1) (.slice A2 d.P.length c2) d) (hd : Drawn d) :
    SomeDisk w S cv len (.returned (.agg #[.slice A1 d.S.length c1, .slice A2 d.P.length c2])) ((W.setCell ⟨w.heap.size, 0, none⟩ (.slice A1 d.S.length c1)).setCell ⟨w.heap.size, 1, none⟩ (.slice A2 d.P.length c2)) := by
  have h4 := h.low
  exact ⟨A1, c1, A2, c2, d, rfl, ((h.own.far (by simp only; omega) _).far (by simp only; omega) _).base (by omega), hd, grown_set_far (grown_set_far h.grown _ _ _ (Nat.le_refl _)) _ _ _ (Nat.le_refl _), (h.src.far _ _ _ (by omega)).far _ _ _ (by omega)⟩

theorem At.done' {w W : World} {S b : Nat} {cv : Value} {len : Nat} {A1 A2 : Option Addr} {c1 c2 n m : Nat} {d : Dk} (h : At w W S b cv len (.slice A1 n c1) (.slice A2 m c2) d) (hn : n = d.S.length) (hm : m = d.P.length) (hd : Drawn d) :
    SomeDisk w S cv len (.returned (.agg #[.slice A1 n c1, .slice A2 m c2])) ((W.setCell ⟨w.heap.size, 0, none⟩ (.slice A1 n c1)).setCell ⟨w.heap.size, 1, none⟩ (.slice A2 m c2)) := by
  subst hn hm
  exact h.done hd
theorem At.nilS {w W : World} {S b : Nat} {cv : Value} {len : Nat} {s p : Value} {d : Dk} (h : At w W S b cv len s p d) : At w (W.setCell ⟨b, 0, none⟩ (.slice none 0 0)) S b cv len (.slice none 0 0) p ⟨[], d.P⟩ := by
  obtain ⟨s', p', e, _, hp⟩ := h.own
  simp only [Value.agg.injEq, Array.mk.injEq, List.cons.injEq, and_true] at e
  obtain ⟨rfl, rfl⟩ := e
  exact h.put0 ⟨_, _, rfl, World.ownsRow_nil _ _ _ _, hp⟩
/-- One more is pending. -/
theorem At.grewP {w W w3 : World} {S b : Nat} {cv : Value} {len : Nat} {s p v' : Value} {d : Dk} (h : At w W S b cv len s p d) (x : Pd) {xs : List Value} {n : Nat} (hn : n = d.P.length + 1) (hx : xs = (d.P ++ [x]).flatMap encP) (g : Grew W (w.heap.size + 1) 84 2 p n xs v' w3) :
    At w (w3.setCell ⟨b, 1, none⟩ v') S b cv len s v' ⟨d.S, d.P ++ [x]⟩ ∧ w3.heap[b]? = some (.cells #[s, p] 26 (0, 0)) ∧ w3.heap[w.heap.size]? = some (.cells #[.slice none 0 0, .slice none 0 0] 26 (0, 0)) := by
  subst hn hx
  obtain ⟨s', p', e, hs, hp⟩ := h.own
  simp only [Value.agg.injEq, Array.mk.injEq, List.cons.injEq, and_true] at e
  obtain ⟨rfl, rfl⟩ := e
  have h1 := h.low
  have h2 := h.far
  have hl := World.ownsRow.lt hp
  have hb := block_lt h.box
  have e1 : w3.heap[b]? = some (.cells #[s, p] 26 (0, 0)) := by
    rw [g.2.1.block b hb (fun e => hp.type h.box (by decide) b e.symm rfl)]
    exact h.box
  have hO : DkOw w3 (w.heap.size + 1) (.agg #[s, v']) ⟨d.S, d.P ++ [x]⟩ := ⟨_, _, rfl, g.other hs hp (by decide), by unfold Ow; rw [List.length_append]; exact g.1⟩
  have hG : w.grownBy w3 (some S) := grownBy_young h.grown g.2.1 (fun j hj => by have := (hl j hj).1; omega)
  have e2 : w3.heap[w.heap.size]? = some (.cells #[.slice none 0 0, .slice none 0 0] 26 (0, 0)) := by
    rw [g.2.1.block w.heap.size (by omega) (fun e => by have := (hl _ e.symm).1; omega)]
    exact h.res
  refine ⟨⟨?_, grown_set_far hG b 1 v' (by omega), h1, h2, ?_, block_set e1 1 v', hO.beside e1 (by decide) (by decide) 1 v'⟩, e1, e2⟩
  · refine Src.far ?_ b 1 v' (by omega)
    exact h.src.keep (g.2.1.block S h.src.lt (fun e => by have := (hl S e.symm).1; omega))
  · rw [Below.heap_setCell _ _ _ _ (by simp only; omega)]
    exact e2
theorem ow_set0 {W : World} {base g n c : Nat} {L : List ByteArray} (h : Ow W base 9 1 encS (.slice (some ⟨g, 0, none⟩) n c) L) (t : ByteArray) (hn : 0 < n) : Ow (W.setCell ⟨g, 0, none⟩ (.string t)) base 9 1 encS (.slice (some ⟨g, 0, none⟩) n c) (L.set 0 t) := by
  obtain ⟨h1, h2⟩ := h
  rcases h2 with ⟨e, _⟩ | ⟨g', cap, cur, e, hb, hg, hc1, hc2, hc3, hx⟩
  · cases e
  · injection e with e1 e2 e3
    injection e1 with e1
    injection e1 with e1
    subst e1 e2 e3
    have hx' : (cur.setIfInBounds 0 (.string t)).toList.take (L.length * 1) = (L.set 0 t).flatMap encS := by
      rw [Array.toList_setIfInBounds, List.take_set, hx]
      cases L with
      | nil => simp at hn
      | cons a l => rfl
    refine ⟨?_, .inr ⟨g, c, cur.setIfInBounds 0 (.string t), ?_, hb, block_set hg 0 _, ?_, hc2, by simpa using hc3, ?_⟩⟩
    · exact flat_len 1 encS encS_len (L.set 0 t)
    · rw [List.length_set]
    · rw [List.length_set]; exact hc1
    · rw [List.length_set]; exact hx'
theorem At.setS {w W : World} {S b : Nat} {cv : Value} {len g n c : Nat} {p : Value} {d : Dk} (h : At w W S b cv len (.slice (some ⟨g, 0, none⟩) n c) p d) (hn : n = d.S.length) (h0 : 0 < n) (t : ByteArray) : At w (W.setCell ⟨g, 0, none⟩ (.string t)) S b cv len (.slice (some ⟨g, 0, none⟩) n c) p ⟨d.S.set 0 t, d.P⟩ := by
  subst hn
  obtain ⟨s', p', e, hs, hp⟩ := h.own
  simp only [Value.agg.injEq, Array.mk.injEq, List.cons.injEq, and_true] at e
  obtain ⟨rfl, rfl⟩ := e
  have h1 := h.low
  have h2 := h.far
  have hl := (World.ownsRow.lt hs) g rfl
  have hgb : b ≠ g := hs.type h.box (by decide) g rfl
  refine ⟨h.src.far g 0 _ (by omega), grown_set_far h.grown g 0 _ (by omega), h1, h2, by rw [Below.heap_setCell _ _ _ _ (by simp only; omega)]; exact h.res, by rw [Below.heap_setCell _ _ _ _ (by simp only; omega)]; exact h.box, ⟨_, _, rfl, ow_set0 hs t h0, hp.aside (fun g' hg' => ?_) _⟩⟩
  rcases hp.apart hs (by decide) with e | e
  · rw [e] at hg'; cases hg'
  · intro hh
    exact e (by rw [hg']; exact congrArg some hh.symm)
theorem At.ownS {w W : World} {S b : Nat} {cv : Value} {len : Nat} {s p : Value} {d : Dk} (h : At w W S b cv len s p d) : Ow W (w.heap.size + 1) 9 1 encS s d.S := by
  obtain ⟨s', p', e, hs, hp⟩ := h.own
  simp only [Value.agg.injEq, Array.mk.injEq, List.cons.injEq, and_true] at e
  obtain ⟨rfl, rfl⟩ := e
  exact hs
theorem At.ownP {w W : World} {S b : Nat} {cv : Value} {len : Nat} {s p : Value} {d : Dk} (h : At w W S b cv len s p d) : Ow W (w.heap.size + 1) 84 2 encP p d.P := by
  obtain ⟨s', p', e, hs, hp⟩ := h.own
  simp only [Value.agg.injEq, Array.mk.injEq, List.cons.injEq, and_true] at e
  obtain ⟨rfl, rfl⟩ := e
  exact hp
theorem drawn_more {d : Dk} (h : Drawn d) (hl : d.P.length < 300) (x : Pd) (h1 : 0 ≤ x.1) (h2 : x.1 ≤ 64) (h3 : x.2.size ≤ 65) : Drawn ⟨d.S, d.P ++ [x]⟩ := by
  obtain ⟨a1, a2, a3, a4, a5⟩ := h
  refine ⟨a1, a2, by simp only [List.length_append, List.length_singleton]; omega, fun q hq => ?_, fun q hq => ?_⟩
  all_goals
    rcases List.mem_append.1 hq with hq | hq
    · first | exact a4 q hq | exact a5 q hq
    · have e : q = x := by simpa using hq
      subst e
      first | exact h3 | exact ⟨h1, h2⟩
theorem drawn_set {d : Dk} (h : Drawn d) (t : ByteArray) (h3 : t.size ≤ 65) : Drawn ⟨d.S.set 0 t, d.P⟩ := by
  obtain ⟨a1, a2, a3, a4, a5⟩ := h
  refine ⟨by simp only [List.length_set]; exact a1, fun q hq => ?_, a3, a4, a5⟩
  rcases List.mem_or_eq_of_mem_set hq with hq | rfl
  · exact a2 q hq
  · exact h3
/-- How long the second slice of a box is. -/
def boxLen (w : World) (b : Nat) : Nat := match w.cell? ⟨b, 1, none⟩ with
  | some (.slice _ n _) => n
  | _ => 0
theorem boxLen_at {w W : World} {S b : Nat} {cv : Value} {len n c : Nat} {s : Value} {A : Option Addr} {d : Dk} (h : At w W S b cv len s (.slice A n c) d) : boxLen W b = n := by
  unfold boxLen
  rw [(box2 h.box).2]
theorem SomeDisk.alloc {w W : World} {S : Nat} {cv : Value} {len : Nat} {e : Ending} (h : SomeDisk w S cv len e W) (o : Obj) : SomeDisk w S cv len e (W.alloc o) := by
  obtain ⟨A1, c1, A2, c2, d, he, hd, hdr, hg, hs⟩ := h
  exact ⟨A1, c1, A2, c2, d, he, hd.alloc o, hdr, grown_trans hg (World.grownBy_alloc _ _ _), hs.below ((Below.refl _ _).alloc (Nat.le_refl _) _)⟩

end Go.Proofs.YthchlfllcnlmjaaGreatDoor
