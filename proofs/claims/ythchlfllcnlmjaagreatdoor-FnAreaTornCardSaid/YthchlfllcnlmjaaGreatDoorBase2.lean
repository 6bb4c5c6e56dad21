/-
  Disks in memory: made, copied, measured, held alike, marked; what a write, a flush does, as data; a ledger.
-/
import Derived.Test.YthchlfllcnlmjaaGreatDoorProg
import Derived.Test.YthchlfllcnlmjaaGreatDoorBase1
import Derived.ProofKit
import Derived.WalkSmall
import Derived.Laws.MakeOwn
import Derived.BigQuiet
import Derived.IntWalk
import Derived.Deep.RegionWith
import Derived.RegionTactic
import Derived.Deep.QuietTactic
import Derived.Maps.StringElems
import Derived.Maps.OwnSet
import Derived.Maps.RangeWalk
/-! Contracts of the copies of an input: toStringS, toPending, toPendingS, toDisk. -/
namespace Go.Proofs.YthchlfllcnlmjaaGreatDoor
open Go.ChangeShapes Go.WideShapes Go.ChangeAt Go.RowKit

theorem infoStr : (Tryz.prog.info? 9).map (fun i => (i.zero, i.size, i.bytes)) = some (some (.string ⟨#[]⟩), 1, 16) := by kernel_rfl
theorem infoPend : (Tryz.prog.info? 84).map (fun i => (i.zero, i.size, i.bytes)) = some (some (.agg #[.int .i64 0, .string ⟨#[]⟩]), 2, 24) := by kernel_rfl

theorem block_some {w : World} {b : Nat} {cs : Array Value} {t : TypeId} (h : w.heap[b]? = some (.cells cs t (0, 0))) (k : Nat) (hk : k < cs.size) : ∃ x, w.cell? ⟨b, k, none⟩ = some x := ⟨_, block_cell h k hk⟩

/-- 'make' of a row: what it lays under a name. -/
theorem make_row (T E : TypeId) (z : Value) (size bytes : Nat) (hT : Tryz.prog.underlying T = some (.slice E)) (hI : (Tryz.prog.info? E).map (fun i => (i.zero, i.size, i.bytes)) = some (some z, size, bytes)) (n : Nat) (h : n * bytes ≤ 281474976710656) (h2 : n ≤ 9223372036854775807) :
    ∃ M : Array Value, M = madeCells z.cells (n * size) ∧ M.size = n * size ∧ ∀ W : World, (Instr.makeSlice T (.int .i64 (n : Int)) (.int .i64 (n : Int))).run Tryz.prog W = .ok (.slice (some ⟨W.heap.size, 0, none⟩) n n) (W.alloc (.cells M E)) := by
  obtain ⟨i0, hi, hz0, hz1, hz2⟩ := info_parts hI
  refine ⟨madeCells z.cells (n * size), rfl, by rw [size_madeCells], fun W => ?_⟩
  have hb : (i0.bytes : Int) * (n : Int) ≤ 281474976710656 := by
    have h' : ((i0.bytes * n : Nat) : Int) ≤ 281474976710656 := by rw [hz2, Nat.mul_comm]; omega
    rwa [Int.natCast_mul] at h'
  have h := run_make (P := Tryz.prog) W T E i0 z hT hi hz0 .i64 .i64 (n : Int) (n : Int) (by omega) (by omega) hb (by omega)
  rw [← hz1]
  simpa using h

/-- What a copy gives: a slice of the call's own. -/
def Owns {α : Type} (w : World) (E : TypeId) (k : Nat) (enc : α → List Value) (l : List α) (e : Ending) (w' : World) : Prop := ∃ v, e = .returned v ∧ Ow w' w.heap.size E k enc v l ∧ Below w.heap.size w w'

theorem row_lit {w : World} {g : Nat} {E : TypeId} {cs : Array Value} {xs : List Value} (hg : w.heap[g]? = some (.cells cs E (0, 0))) (base n k : Nat) (hb : base ≤ g) (hm : n ≤ maxLen) (hs : cs.size = n * k) (hx : cs.toList = xs) : w.ownsRow base E k (.slice (some ⟨g, 0, none⟩) n n) n xs :=
  ⟨by rw [← hx, Array.length_toList, hs], .inr ⟨g, n, cs, rfl, hb, hg, Nat.le_refl _, hm, hs, by rw [hx, List.take_of_length_le (by rw [← hx, Array.length_toList, hs]; exact Nat.le_refl _)]⟩⟩

theorem flat_one {α : Type} (f : α → Value) (l : List α) : (l.flatMap fun x => [f x]) = l.map f := by
  induction l with
  | nil => rfl
  | cons x l ih => simp [List.flatMap_cons, ih]

theorem set_take_one (cur : Array Value) (k : Nat) (xs : List Value) (u : Value) (hk : k < cur.size) (h : cur.toList.take k = xs) : (cur.setIfInBounds k u).toList.take (k + 1) = xs ++ [u] := by
  rw [Array.toList_setIfInBounds, List.take_succ_eq_append_getElem (by simpa using hk), List.take_set, List.set_eq_of_length_le (by rw [List.length_take]; omega), h]
  simp

set_option maxRecDepth 100000 in
theorem to_strings (v : Value) (S : List ByteArray) (w : World) (hv : Sl w w.heap.size 1 encS v S) (hS : S.length ≤ 1048576) :
    Calls Tryz.prog 64 #[v] w (Owns w 9 1 encS S) := by
  obtain ⟨A, c, rfl⟩ := hv.form
  have HV := Lib.hid hv
  clear hv
  obtain ⟨M, -, hMs, hmk⟩ := make_row 23 9 _ 1 16 Tryz.underlying23 infoStr S.length (by omega) (by omega)
  have HM := Lib.hid hMs; clear hMs
  go_enter Tryz.func64, Tryz.ntmps64
  go_wp2
  go_loopw [4] (fun i wr => ∃ (k : Nat) (cur : Array Value), k ≤ S.length ∧ i = .int .i64 k ∧ wr.heap[w.heap.size]? = some (.cells cur 9 (0, 0)) ∧ cur.size = S.length * 1 ∧ cur.toList.take k = (S.take k).map Value.string ∧ Below w.heap.size w wr) (fun i _ => S.length - (intOf i).toNat)
  case atStart => exact ⟨0, M, by omega, rfl, heap_alloc_new _ _, HM.out, rfl, (Below.refl _ _).alloc (Nat.le_refl _) _⟩
  case round =>
    obtain ⟨k, cur, hk, rfl, hg, hs, ht, hb⟩ := hrel
    have HG := Lib.hid hg; have HS := Lib.hid hs; have HT := Lib.hid ht; have HB := Lib.hid hb
    by_cases hlt : k < S.length
    · obtain ⟨ad, c', e', _, hc⟩ := (HV.out.below hb).one k hlt
      obtain ⟨y, hcell⟩ := block_some hg k (by omega)
      have hfree := block_free hg k
      clear hb hg hs ht
      simp only [Value.slice.injEq, true_and] at e'
      obtain ⟨rfl, rfl⟩ := e'
      obtain ⟨t, ht⟩ : ∃ t, t = S[k] := ⟨_, rfl⟩
      rw [← ht] at hc
      have HX := Lib.hid ht; clear ht
      go_wp2
      go_roundw
      case rel => exact ⟨k + 1, _, by omega, by go_num, block_set HG.out k _, by rw [Array.size_setIfInBounds]; exact HS.out, by
        rw [set_take_one cur k _ _ (by have := HS.out; omega) HT.out, List.take_succ_eq_append_getElem hlt, List.map_append, HX.out]; rfl, HB.out.setCell (by simp) _⟩
      case measure => simp [intOf]; omega
    · have hks : k = S.length := by omega
      subst hks
      clear hb hg hs ht
      go_wp2
      go_ret
      refine ⟨_, rfl, row_lit HG.out _ _ 1 (Nat.le_refl _) (by unfold maxLen; omega) HS.out ?_, HB.out⟩
      have h := HT.out
      rw [List.take_of_length_le (by rw [Array.length_toList, HS.out]; omega), List.take_of_length_le (Nat.le_refl _)] at h
      rw [h]; exact (flat_one Value.string S).symm

theorem to_pending (p : Pd) (w : World) :
    Calls Tryz.prog 93 #[.agg #[.int .i64 p.1, .string p.2]] w fun e w' => e = .returned (.agg #[.int .i64 p.1, .string p.2]) ∧ Below w.heap.size w w' := by
  go_enter Tryz.func93, Tryz.ntmps93
  go_wp2
  refine bodyPost_ret (v := .agg #[.int .i64 p.1, .string p.2]) (by simp [results, Tryz.results93, go_sem]) rfl ⟨rfl, ?_⟩
  repeat' (first | exact Below.refl _ _ | refine Below.setCell ?_ (by simp) _ | refine Below.alloc ?_ (by first | exact Nat.le_refl _ | (simp only [World.size_alloc]; omega)) _)

theorem set_take_two (cur : Array Value) (k : Nat) (xs : List Value) (u v : Value) (hk : k * 2 + 1 < cur.size) (h : cur.toList.take (k * 2) = xs) : ((cur.setIfInBounds (k * 2) u).setIfInBounds (k * 2 + 1) v).toList.take ((k + 1) * 2) = xs ++ [u, v] := by
  have e1 : (k + 1) * 2 = k * 2 + 1 + 1 := by omega
  rw [e1, set_take_one _ _ (xs ++ [u]) v (by rw [Array.size_setIfInBounds]; exact hk) (set_take_one _ _ xs u (by omega) h)]
  simp

set_option maxRecDepth 100000 in
theorem to_pendings (v : Value) (P : List Pd) (w : World) (hv : Sl w w.heap.size 2 encP v P) (hP : P.length ≤ 1048576) :
    Calls Tryz.prog 65 #[v] w (Owns w 84 2 encP P) := by
  obtain ⟨A, c, rfl⟩ := hv.form
  have HV := Lib.hid hv
  clear hv
  obtain ⟨M, -, hMs, hmk⟩ := make_row 24 84 _ 2 24 Tryz.underlying24 infoPend P.length (by omega) (by omega)
  have HM := Lib.hid hMs; clear hMs
  go_enter Tryz.func65, Tryz.ntmps65
  go_wp2
  go_loopw [4] (fun i wr => ∃ (k : Nat) (cur : Array Value), k ≤ P.length ∧ i = .int .i64 k ∧ wr.heap[w.heap.size]? = some (.cells cur 84 (0, 0)) ∧ cur.size = P.length * 2 ∧ cur.toList.take (k * 2) = (P.take k).flatMap encP ∧ Below w.heap.size w wr) (fun i _ => P.length - (intOf i).toNat)
  case atStart => exact ⟨0, M, by omega, rfl, heap_alloc_new _ _, HM.out, rfl, (Below.refl _ _).alloc (Nat.le_refl _) _⟩
  case round =>
    obtain ⟨k, cur, hk, rfl, hg, hs, ht, hb⟩ := hrel
    have HG := Lib.hid hg; have HS := Lib.hid hs; have HT := Lib.hid ht; have HB := Lib.hid hb
    by_cases hlt : k < P.length
    · obtain ⟨ad, c', e', _, hc1, hc2⟩ := (HV.out.below hb).two k hlt
      clear hb hg hs ht
      simp only [Value.slice.injEq, true_and] at e'
      obtain ⟨rfl, rfl⟩ := e'
      obtain ⟨t, ht⟩ : ∃ t, t = P[k] := ⟨_, rfl⟩
      rw [← ht] at hc1 hc2
      have HX := Lib.hid ht; clear ht
      have hzr : w.heap.size < wr.heap.size := block_lt HG.out
      go_wp2_with fail
      refine (to_pending t _).mono ?_
      rintro e w1 ⟨rfl, hb1⟩
      have hg1 : w1.heap[w.heap.size]? = some (.cells cur 84 (0, 0)) := by rw [hb1.block _ hzr]; exact HG.out
      obtain ⟨y0, hcell0⟩ := block_some hg1 (k * 2) (by have := HS.out; omega)
      obtain ⟨y1, hcell1⟩ := block_some hg1 (k * 2 + 1) (by have := HS.out; omega)
      have hfree0 := block_free hg1 (k * 2)
      have hfree1 := block_free hg1 (k * 2 + 1)
      have HG1 := Lib.hid hg1
      have HB1 := Lib.hid (below_call HB.out HB.out.size hb1)
      clear hg1 hb1
      go_wp2
      go_roundw
      case rel => exact ⟨k + 1, _, by omega, by go_num, block_set (block_set HG1.out (k * 2) _) (k * 2 + 1) _, by rw [Array.size_setIfInBounds, Array.size_setIfInBounds]; exact HS.out, by
        rw [set_take_two cur k _ _ _ (by have := HS.out; omega) HT.out, List.take_succ_eq_append_getElem hlt, List.flatMap_append, HX.out]; rfl, (HB1.out.setCell (by simp) _).setCell (by simp) _⟩
      case measure => simp [intOf]; omega
    · have hks : k = P.length := by omega
      subst hks
      clear hb hg hs ht
      go_wp2
      go_ret
      refine ⟨_, rfl, row_lit HG.out _ _ 2 (Nat.le_refl _) (by unfold maxLen; omega) HS.out ?_, HB.out⟩
      have h := HT.out
      rw [List.take_of_length_le (by rw [Array.length_toList, HS.out]; omega), List.take_of_length_le (Nat.le_refl _)] at h
      exact h

/-- A disk's value that owns its memory, in blocks from base on. -/
def DkOw (w : World) (base : Nat) (v : Value) (d : Dk) : Prop := ∃ vs vp, v = .agg #[vs, vp] ∧ Ow w base 9 1 encS vs d.S ∧ Ow w base 84 2 encP vp d.P
theorem DkOw.at_ {w : World} {base : Nat} {v : Value} {d : Dk} (h : DkOw w base v d) : DkAt w w.heap.size v d := by
  obtain ⟨vs, vp, rfl, h1, h2⟩ := h
  exact ⟨vs, vp, rfl, h1.sl encS_len, h2.sl encP_len⟩
theorem DkOw.lift {w w' : World} {base : Nat} {v : Value} {d : Dk} (h : DkOw w base v d) (hb : Below w.heap.size w w') : DkOw w' base v d := by
  obtain ⟨vs, vp, rfl, h1, h2⟩ := h
  exact ⟨vs, vp, rfl, h1.lift hb, h2.lift hb⟩
theorem DkOw.base {w : World} {base base' : Nat} {v : Value} {d : Dk} (h : DkOw w base v d) (hb : base' ≤ base) : DkOw w base' v d := by
  obtain ⟨vs, vp, rfl, h1, h2⟩ := h
  exact ⟨vs, vp, rfl, h1.base hb, h2.base hb⟩
/-- A disk of the call's own. -/
def OwnsDk (w : World) (d : Dk) (e : Ending) (w' : World) : Prop := ∃ v, e = .returned v ∧ DkOw w' w.heap.size v d ∧ Below w.heap.size w w'

set_option maxRecDepth 100000 in
theorem to_disk (v : Value) (d : Dk) (w : World) (hv : DkAt w w.heap.size v d) (h1 : d.S.length ≤ 1048576) (h2 : d.P.length ≤ 1048576) :
    Calls Tryz.prog 23 #[v] w (OwnsDk w d) := by
  obtain ⟨vs, vp, rfl, hs, hp⟩ := hv
  have H1 := Lib.hid (fun W (hb : Below w.heap.size w W) => to_strings vs d.S W ((hs.below hb).more hb.size) h1)
  have H2 := Lib.hid (fun W (hb : Below w.heap.size w W) => to_pendings vp d.P W ((hp.below hb).more hb.size) h2)
  clear hs hp h1 h2
  go_enter Tryz.func23, Tryz.ntmps23
  go_wp2_with fail
  refine (H1.out _ ?_).mono ?_
  · repeat' (first | exact Below.refl _ _ | refine Below.alloc ?_ (by first | exact Nat.le_refl _ | (simp only [World.size_alloc]; omega)) _)
  rintro e w1 ⟨v1, rfl, ho1, hb1⟩
  obtain ⟨A1, c1, rfl⟩ := ho1.form
  obtain ⟨hc, hf⟩ := bcell hb1
  have hz := hb1.size
  simp only [World.size_alloc] at hz
  have hz0 : w.heap.size < w1.heap.size := by omega
  have hz1 : w.heap.size + 1 < w1.heap.size := by omega
  have hz3 : w.heap.size + 1 + 1 < w1.heap.size := by omega
  have HB := Lib.hid (show Below w.heap.size w w1 from below_call (by repeat' (first | exact Below.refl _ _ | refine Below.alloc ?_ (by first | exact Nat.le_refl _ | (simp only [World.size_alloc]; omega)) _)) (by simp only [World.size_alloc]; omega) hb1)
  have HO1 := Lib.hid (ho1.base (base' := w.heap.size + 1 + 1 + 1) (by simp only [World.size_alloc]; omega))
  clear ho1 hb1
  go_wp2_with fail
  refine (H2.out _ ?_).mono ?_
  · exact HB.out.setCell (by simp only; omega) _
  rintro e w2 ⟨v2, rfl, ho2, hb2⟩
  obtain ⟨A2, c2, rfl⟩ := ho2.form
  have hz2 := hb2.size
  simp only [World.size_setCell] at hz2
  obtain ⟨hc2, hf2⟩ := bcell hb2
  have HO1' := Lib.hid ((HO1.out.far (p := ⟨w.heap.size + 1 + 1, 0, none⟩) (by simp only; omega) (.slice A1 d.S.length c1)).lift hb2)
  have HO2 := Lib.hid (ho2.base (base' := w.heap.size + 1 + 1 + 1) (by simp only [World.size_setCell]; omega))
  have HB2 := Lib.hid (below_call (HB.out.setCell (p := ⟨w.heap.size + 1 + 1, 0, none⟩) (by simp only; omega) (.slice A1 d.S.length c1)) (by simp only [World.size_setCell]; omega) hb2)
  clear ho2 hb2
  go_wp2
  refine bodyPost_ret (v := .agg #[.slice A1 d.S.length c1, .slice A2 d.P.length c2]) (by simp [results, Tryz.results23, go_sem, hc2, hc, hz1]) rfl ⟨_, rfl, ⟨_, _, rfl, ?_, ?_⟩, ?_⟩
  · exact (((HO1'.out.far (by simp only; omega) _).far (by simp only; omega) _).far (by simp only; omega) _).base (by omega)
  · exact (((HO2.out.far (by simp only; omega) _).far (by simp only; omega) _).far (by simp only; omega) _).base (by omega)
  · exact ((HB2.out.setCell (by simp only; omega) _).setCell (by simp only; omega) _).setCell (by simp only; omega) _

end Go.Proofs.YthchlfllcnlmjaaGreatDoor

/-! Marks: what stands there. -/
namespace Go.Proofs.YthchlfllcnlmjaaGreatDoor
open Go.ChangeShapes Go.WideShapes Go.ChangeAt Go.RowKit


/-- The digits of a number, none of 0. -/
def dg (n : Nat) : List UInt8 := if _h : n = 0 then [] else dg (n / 10) ++ [48 + UInt8.ofNat (n % 10)]
termination_by n
decreasing_by omega
theorem dg_zero : dg 0 = [] := by unfold dg; simp
theorem dg_pos (n : Nat) (h : 0 < n) : dg n = dg (n / 10) ++ [48 + UInt8.ofNat (n % 10)] := by
  rw [dg]
  simp [Nat.ne_of_gt h]
theorem dg_len (n : Nat) : (dg n).length ≤ n := by
  induction n using Nat.strongRecOn with
  | ind n ih =>
    by_cases h : n = 0
    · subst h; rw [dg_zero]; simp
    · rw [dg_pos n (by omega), List.length_append]
      have := ih (n / 10) (by omega)
      simp
      omega
theorem cat_bytes (a b : List UInt8) : (ByteArray.mk a.toArray) ++ (ByteArray.mk b.toArray) = ByteArray.mk (a ++ b).toArray := by
  apply ByteArray.ext
  simp
/-- The mark of a number. -/
def mk (n : Nat) : ByteArray := ⟨(109 :: dg n).toArray⟩

def marksS (k n : Nat) : List ByteArray := (List.range n).map fun i => mk (k + i)
def marksP (k n : Nat) : List Pd := (List.range n).map fun (i : Nat) => (((k + 2 * i : Nat) : Int), mk (k + 2 * i + 1))
theorem marksS_succ (k n : Nat) : marksS k (n + 1) = marksS k n ++ [mk (k + n)] := by simp [marksS, List.range_succ]
theorem marksP_succ (k n : Nat) : marksP k (n + 1) = marksP k n ++ [(((k + 2 * n : Nat) : Int), mk (k + 2 * n + 1))] := by simp [marksP, List.range_succ]
theorem marksS_len (k n : Nat) : (marksS k n).length = n := by simp [marksS]
theorem marksP_len (k n : Nat) : (marksP k n).length = n := by simp [marksP]

/-- Marks have been laid into a slice that the call owns; the next number is told. -/
def Marked {α : Type} (w : World) (base : Nat) (E : TypeId) (k : Nat) (enc : α → List Value) (v : Value) (l : List α) (r : Nat) (e : Ending) (w' : World) : Prop :=
  e = .returned (.int .i64 (r : Int)) ∧ Ow w' base E k enc v l ∧ w.grownBy w' v.ownBlock

theorem undraw {w w2 : World} (k : Below w.drew.heap.size w.drew w2) : Below w.heap.size w w2 := ⟨k.os, k.tape, k.output, k.size, k.block⟩
/-- All marks are there; the next number is told. -/
def Holds (w : World) (r : Nat) (e : Ending) (w' : World) : Prop := e = .returned (.int .i64 (r : Int)) ∧ Below w.heap.size w w'

end Go.Proofs.YthchlfllcnlmjaaGreatDoor

/-! Contracts of the comparisons, at two values that read alike: yes. -/
namespace Go.Proofs.YthchlfllcnlmjaaGreatDoor
open Go.ChangeShapes Go.WideShapes Go.ChangeAt Go.RowKit

/-- Yes, and nothing that was there has turned. -/
def Yes (w : World) (e : Ending) (w' : World) : Prop := e = .returned (.bool true) ∧ Below w.heap.size w w'

set_option maxRecDepth 100000 in
theorem eq_strings (v1 v2 : Value) (S : List ByteArray) (w : World) (h1 : Sl w w.heap.size 1 encS v1 S) (h2 : Sl w w.heap.size 1 encS v2 S) (hS : S.length ≤ 140737488351232) :
    Calls Tryz.prog 66 #[v1, v2] w (Yes w) := by
  obtain ⟨A1, c1, rfl⟩ := h1.form
  obtain ⟨A2, c2, rfl⟩ := h2.form
  have H1 := Lib.hid h1; have H2 := Lib.hid h2
  clear h1 h2
  have hne : ((S.length : Int) != (S.length : Int)) = false := by simp
  go_enter Tryz.func66, Tryz.ntmps66
  go_wp2
  go_loopw [5] (fun i wr => ∃ (k : Nat), k ≤ S.length ∧ i = .int .i64 k ∧ Below w.heap.size w wr) (fun i _ => S.length - (intOf i).toNat)
  case atStart => exact ⟨0, by omega, rfl, Below.refl _ _⟩
  case round =>
    obtain ⟨k, hk, rfl, hb⟩ := hrel
    have HB := Lib.hid hb
    by_cases hlt : k < S.length
    · obtain ⟨a1, c1', e1, _, hc1⟩ := (H1.out.below hb).one k hlt
      obtain ⟨a2, c2', e2, _, hc2⟩ := (H2.out.below hb).one k hlt
      clear hb hne
      simp only [Value.slice.injEq, true_and] at e1 e2
      obtain ⟨rfl, rfl⟩ := e1
      obtain ⟨rfl, rfl⟩ := e2
      generalize S[k] = t at hc1 hc2
      have hq := beq_yes t
      go_wp2
      go_quiet (fail)
      go_wp2
      go_roundw
      case rel => exact ⟨k + 1, by omega, by go_num, below_drewN' HB.out _⟩
      case measure => simp [intOf]; omega
    · have hks : k = S.length := by omega
      subst hks
      clear hb hne
      go_wp2
      go_ret
      exact ⟨rfl, HB.out⟩

theorem eq_pending (p : Pd) (w : World) :
    Calls Tryz.prog 94 #[.agg #[.int .i64 p.1, .string p.2], .agg #[.int .i64 p.1, .string p.2]] w (Yes w) := by
  have hq := beq_yes p.2
  have hn : (p.1 != p.1) = false := by simp
  go_enter Tryz.func94, Tryz.ntmps94
  go_wp2
  go_ret
  exact ⟨rfl, ((Below.refl _ _).alloc (Nat.le_refl _) _).alloc (by simp) _⟩

set_option maxRecDepth 100000 in
theorem eq_pendings (v1 v2 : Value) (P : List Pd) (w : World) (h1 : Sl w w.heap.size 2 encP v1 P) (h2 : Sl w w.heap.size 2 encP v2 P) (hP : P.length ≤ 140737488351232) :
    Calls Tryz.prog 67 #[v1, v2] w (Yes w) := by
  obtain ⟨A1, c1, rfl⟩ := h1.form
  obtain ⟨A2, c2, rfl⟩ := h2.form
  have H1 := Lib.hid h1; have H2 := Lib.hid h2
  clear h1 h2
  have hne : ((P.length : Int) != (P.length : Int)) = false := by simp
  go_enter Tryz.func67, Tryz.ntmps67
  go_wp2
  go_loopw [5] (fun i wr => ∃ (k : Nat), k ≤ P.length ∧ i = .int .i64 k ∧ Below w.heap.size w wr) (fun i _ => P.length - (intOf i).toNat)
  case atStart => exact ⟨0, by omega, rfl, Below.refl _ _⟩
  case round =>
    obtain ⟨k, hk, rfl, hb⟩ := hrel
    have HB := Lib.hid hb
    by_cases hlt : k < P.length
    · obtain ⟨a1, c1', e1, _, hc1, hd1⟩ := (H1.out.below hb).two k hlt
      obtain ⟨a2, c2', e2, _, hc2, hd2⟩ := (H2.out.below hb).two k hlt
      clear hb hne
      simp only [Value.slice.injEq, true_and] at e1 e2
      obtain ⟨rfl, rfl⟩ := e1
      obtain ⟨rfl, rfl⟩ := e2
      generalize P[k] = t at hc1 hc2 hd1 hd2
      go_wp2
      go_region_with (go_at_call 94; refine (eq_pending t _).mono ?_; rintro e w1 ⟨rfl, hb1⟩)
      all_goals
        have HB1 := Lib.hid (below_call HB.out.drew HB.out.size hb1)
        clear hb1
        go_wp2
        go_roundw
        case rel => exact ⟨k + 1, by omega, by go_num, HB1.out⟩
        case measure => simp [intOf]; omega
    · have hks : k = P.length := by omega
      subst hks
      clear hb hne
      go_wp2
      go_ret
      exact ⟨rfl, HB.out⟩

set_option maxRecDepth 100000 in
theorem eq_disk (v1 v2 : Value) (d : Dk) (w : World) (h1 : DkAt w w.heap.size v1 d) (h2 : DkAt w w.heap.size v2 d) (hS : d.S.length ≤ 140737488351232) (hP : d.P.length ≤ 140737488351232) :
    Calls Tryz.prog 25 #[v1, v2] w (Yes w) := by
  obtain ⟨s1, p1, rfl, a1, b1⟩ := h1
  obtain ⟨s2, p2, rfl, a2, b2⟩ := h2
  have H1 := Lib.hid (fun W (hb : Below w.heap.size w W) => eq_strings s1 s2 d.S W ((a1.below hb).more hb.size) ((a2.below hb).more hb.size) hS)
  have H2 := Lib.hid (fun W (hb : Below w.heap.size w W) => eq_pendings p1 p2 d.P W ((b1.below hb).more hb.size) ((b2.below hb).more hb.size) hP)
  clear a1 a2 b1 b2 hS hP
  go_enter Tryz.func25, Tryz.ntmps25
  go_wp2_with fail
  refine (H1.out _ ?_).mono ?_
  · exact ((Below.refl _ _).alloc (Nat.le_refl _) _).alloc (by simp) _
  rintro e w1 ⟨rfl, hb1⟩
  obtain ⟨hc, hf⟩ := bcell hb1
  have HB := Lib.hid (below_call (((Below.refl w.heap.size w).alloc (Nat.le_refl _) _).alloc (by simp) _) (by simp only [World.size_alloc]; omega) hb1)
  clear hb1
  go_wp2_with fail
  refine (H2.out _ HB.out).mono ?_
  rintro e w2 ⟨rfl, hb2⟩
  have HB2 := Lib.hid (below_call HB.out HB.out.size hb2)
  clear hb2
  go_wp2
  go_ret
  exact ⟨rfl, HB2.out⟩

end Go.Proofs.YthchlfllcnlmjaaGreatDoor

/-! Aids for the walks of the exact laws: blocks kept, disks kept. -/
namespace Go.Proofs.YthchlfllcnlmjaaGreatDoor
open Go.RowKit

theorem keep_blk {W w' : World} {b : Nat} {o : Obj} (hb : Below W.heap.size W w') (h : W.heap[b]? = some o) : w'.heap[b]? = some o := by
  rw [hb.block b (block_lt h)]
  exact h
theorem alloc_blk {W : World} {b : Nat} {o : Obj} (h : W.heap[b]? = some o) (o' : Obj) : (W.alloc o').heap[b]? = some o := by
  rw [Below.heap_alloc W o' b (block_lt h)]
  exact h
theorem undrew {w w2 : World} (k : Below w.drew.heap.size w.drew w2) : Below w.heap.size w w2 := ⟨k.os, k.tape, k.output, k.size, k.block⟩
theorem Below.drewIn {B : Nat} {a w w2 : World} (h : Below B a w) (hB : B ≤ w.heap.size) (k : Below w.drew.heap.size w.drew w2) : Below B a w2 := h.trans (Below.mono (w := w) ⟨k.os, k.tape, k.output, k.size, k.block⟩ hB)
/-- A disk of the call's own, its parts named. -/
theorem OwnsDk.parts {w : World} {d : Dk} {e : Ending} {w' : World} (h : OwnsDk w d e w') : ∃ A1 c1 A2 c2, e = .returned (.agg #[.slice A1 d.S.length c1, .slice A2 d.P.length c2]) ∧ DkOw w' w.heap.size (.agg #[.slice A1 d.S.length c1, .slice A2 d.P.length c2]) d ∧ Below w.heap.size w w' := by
  obtain ⟨v, rfl, ⟨vs, vp, rfl, h1, h2⟩, hb⟩ := h
  obtain ⟨A1, c1, rfl⟩ := h1.form
  obtain ⟨A2, c2, rfl⟩ := h2.form
  exact ⟨A1, c1, A2, c2, rfl, ⟨_, _, rfl, h1, h2⟩, hb⟩

end Go.Proofs.YthchlfllcnlmjaaGreatDoor

/-! Marks of a disk: what is kept. -/
namespace Go.Proofs.YthchlfllcnlmjaaGreatDoor
open Go.ChangeShapes Go.WideShapes Go.ChangeAt Go.RowKit


/-- In which blocks a disk's parts lie. -/
def Span (v : Value) (lo hi : Nat) : Prop := ∀ vs vp, v = .agg #[vs, vp] → ∀ g, (vs.ownBlock = some g ∨ vp.ownBlock = some g) → lo ≤ g ∧ g < hi
theorem DkOw.span {w : World} {base : Nat} {v : Value} {d : Dk} (h : DkOw w base v d) : Span v base w.heap.size := by
  obtain ⟨vs, vp, rfl, h1, h2⟩ := h
  intro a b e g hg
  simp only [Value.agg.injEq, Array.mk.injEq, List.cons.injEq, and_true] at e
  obtain ⟨rfl, rfl⟩ := e
  rcases hg with hg | hg
  · exact h1.lies g hg
  · exact h2.lies g hg
theorem Span.wide {v : Value} {lo hi lo' hi' : Nat} (h : Span v lo hi) (h1 : lo' ≤ lo) (h2 : hi ≤ hi') : Span v lo' hi' := fun a b e g hg => by have := h a b e g hg; omega
/-- A disk that lies elsewhere stays. -/
theorem DkOw.kept {w w' : World} {base : Nat} {v : Value} {d : Dk} (h : DkOw w base v d) {lo hi : Nat} (hw : Within lo hi w w') (hh : hi ≤ base) : DkOw w' base v d := by
  obtain ⟨vs, vp, rfl, h1, h2⟩ := h
  exact ⟨vs, vp, rfl, h1.kept hw (.inl hh), h2.kept hw (.inl hh)⟩
theorem DkAt.kept {w w' : World} {B : Nat} {v : Value} {d : Dk} (h : DkAt w B v d) {lo hi : Nat} (hw : Within lo hi w w') (hh : B ≤ lo) (hz : B ≤ w.heap.size) : DkAt w' B v d := h.below (hw.below hh hz)

/-- A disk with marks. -/
def markDk (k : Nat) (d : Dk) : Dk := ⟨marksS k d.S.length, marksP (k + d.S.length) d.P.length⟩
def markEnd (k : Nat) (d : Dk) : Nat := k + d.S.length + 2 * d.P.length
/-- Marks have been laid into a disk that the call owns. -/
def MarkedDk (w : World) (base k : Nat) (v : Value) (d : Dk) (lo hi : Nat) (e : Ending) (w' : World) : Prop :=
  e = .returned (.int .i64 (markEnd k d : Int)) ∧ DkOw w' base v (markDk k d) ∧ Within lo hi w w'

/-- Marks have been laid, the disk's parts named. -/
theorem MarkedDk.back {w : World} {base k : Nat} {v : Value} {d : Dk} {lo hi : Nat} {e : Ending} {w' : World} (h : MarkedDk w base k v d lo hi e w') : ∃ r : Nat, r = markEnd k d ∧ e = .returned (.int .i64 (r : Int)) ∧ DkOw w' base v (markDk k d) ∧ Within lo hi w w' := ⟨_, rfl, h.1, h.2.1, h.2.2⟩
theorem Holds.back {w : World} {r : Nat} {e : Ending} {w' : World} (h : Holds w r e w') : e = .returned (.int .i64 (r : Int)) ∧ Below w.heap.size w w' := h
/-- A block below what is written stays. -/
theorem keep_within {w w' : World} {lo hi b : Nat} {o : Obj} (h : Within lo hi w w') (hb : w.heap[b]? = some o) (hlo : b < lo ∨ hi ≤ b) : w'.heap[b]? = some o := by
  rw [h.block b (block_lt hb) hlo]
  exact hb
theorem below_within {B lo hi : Nat} {a w w' : World} (h : Below B a w) (k : Within lo hi w w') (hB : B ≤ lo) (hz : B ≤ w.heap.size) : Below B a w' := h.trans (k.below hB hz)

end Go.Proofs.YthchlfllcnlmjaaGreatDoor

/-! An answer of a disk: how it lies in memory. -/
namespace Go.Proofs.YthchlfllcnlmjaaGreatDoor
open Go.ChangeShapes Go.WideShapes Go.ChangeAt Go.RowKit


structure Do where
  dk : Dk
  data : ByteArray
  code : Int
def DoAt (w : World) (B : Nat) (v : Value) (o : Do) : Prop := ∃ vs vp, v = .agg #[vs, vp, .string o.data, .int .i64 o.code] ∧ DkAt w B (.agg #[vs, vp]) o.dk
def DoOw (w : World) (base : Nat) (v : Value) (o : Do) : Prop := ∃ vs vp, v = .agg #[vs, vp, .string o.data, .int .i64 o.code] ∧ DkOw w base (.agg #[vs, vp]) o.dk
def OwnsDo (w : World) (o : Do) (e : Ending) (w' : World) : Prop := ∃ v, e = .returned v ∧ DoOw w' w.heap.size v o ∧ Below w.heap.size w w'
/-- Nothing but a code. -/
def illDo (c : Int) : Do := ⟨⟨[], []⟩, ⟨#[]⟩, c⟩

theorem dk_none (w : World) (base : Nat) : DkOw w base (.agg #[.slice none 0 0, .slice none 0 0]) ⟨[], []⟩ := ⟨_, _, rfl, World.ownsRow_nil w base _ _, World.ownsRow_nil w base _ _⟩
theorem do_ill (w : World) (base : Nat) (c : Int) : DoOw w base (.agg #[.slice none 0 0, .slice none 0 0, .string ⟨#[]⟩, .int .i64 c]) (illDo c) := ⟨_, _, rfl, dk_none w base⟩

theorem DkOw.forms {w : World} {base : Nat} {vs vp : Value} {d : Dk} (h : DkOw w base (.agg #[vs, vp]) d) : ∃ A1 c1 A2 c2, vs = .slice A1 d.S.length c1 ∧ vp = .slice A2 d.P.length c2 := by
  obtain ⟨a, b, e, h1, h2⟩ := h
  simp only [Value.agg.injEq, Array.mk.injEq, List.cons.injEq, and_true] at e
  obtain ⟨rfl, rfl⟩ := e
  obtain ⟨A1, c1, rfl⟩ := h1.form
  obtain ⟨A2, c2, rfl⟩ := h2.form
  exact ⟨A1, c1, A2, c2, rfl, rfl⟩
/-- An answer, its parts named. -/
theorem OwnsDo.parts {w : World} {o : Do} {e : Ending} {w' : World} (h : OwnsDo w o e w') : ∃ A1 c1 A2 c2, e = .returned (.agg #[.slice A1 o.dk.S.length c1, .slice A2 o.dk.P.length c2, .string o.data, .int .i64 o.code]) ∧ DkOw w' w.heap.size (.agg #[.slice A1 o.dk.S.length c1, .slice A2 o.dk.P.length c2]) o.dk ∧ Below w.heap.size w w' := by
  obtain ⟨v, rfl, ⟨vs, vp, rfl, hd⟩, hb⟩ := h
  obtain ⟨A1, c1, A2, c2, rfl, rfl⟩ := hd.forms
  exact ⟨A1, c1, A2, c2, rfl, hd, hb⟩
theorem DkOw.far {w : World} {base : Nat} {v : Value} {d : Dk} (h : DkOw w base v d) {p : Addr} (hp : p.block < base) (u : Value) : DkOw (w.setCell p u) base v d := by
  obtain ⟨vs, vp, rfl, h1, h2⟩ := h
  exact ⟨vs, vp, rfl, h1.far hp u, h2.far hp u⟩
theorem DkOw.alloc {w : World} {base : Nat} {v : Value} {d : Dk} (h : DkOw w base v d) (o : Obj) : DkOw (w.alloc o) base v d := by
  obtain ⟨vs, vp, rfl, h1, h2⟩ := h
  exact ⟨vs, vp, rfl, h1.alloc o, h2.alloc o⟩

theorem box4 {w : World} {b : Nat} {x0 x1 x2 x3 : Value} {T : TypeId} (h : w.heap[b]? = some (.cells #[x0, x1, x2, x3] T (0, 0))) : w.cell? ⟨b, 0, none⟩ = some x0 ∧ w.cell? ⟨b, 1, none⟩ = some x1 ∧ w.cell? ⟨b, 2, none⟩ = some x2 ∧ w.cell? ⟨b, 3, none⟩ = some x3 := by
  refine ⟨?_, ?_, ?_, ?_⟩ <;> simp [World.cell?, h]

theorem spec_ill (c : Int) (w : World) : Calls Tryz.prog 89 #[.int .i64 c] w fun e w' => e = .returned (.agg #[.slice none 0 0, .slice none 0 0, .string ⟨#[]⟩, .int .i64 c]) ∧ Below w.heap.size w w' := by
  go_enter Tryz.func89, Tryz.ntmps89
  go_wp2
  exact bodyPost_ret (v := .agg #[.slice none 0 0, .slice none 0 0, .string ⟨#[]⟩, .int .i64 c]) (by simp [results, Tryz.results89, go_sem]) rfl ⟨rfl, (Below.refl _ _).alloc (Nat.le_refl _) _⟩

end Go.Proofs.YthchlfllcnlmjaaGreatDoor

/-! What a write, a read, a flush, a crash answer, as plain data. -/
namespace Go.Proofs.YthchlfllcnlmjaaGreatDoor
open Go.RowKit

theorem heap_two (w : World) (o o' : Obj) : ((w.alloc o).alloc o').heap[w.heap.size + 1]? = some o' := by
  have h := heap_alloc_new (w.alloc o) o'
  rwa [World.size_alloc] at h
theorem box_frozen {w : World} {b : Nat} {cs : Array Value} {T : TypeId} (h : w.heap[b]? = some (.cells cs T (0, 0))) : w.frozen? ⟨b, 0, none⟩ = false ∧ w.frozen? ⟨b, 1, none⟩ = false ∧ w.frozen? ⟨b, 2, none⟩ = false ∧ w.frozen? ⟨b, 3, none⟩ = false := ⟨block_free h 0, block_free h 1, block_free h 2, block_free h 3⟩
theorem Ow.aside {α : Type} {w : World} {base : Nat} {e : TypeId} {k : Nat} {enc : α → List Value} {v : Value} {l : List α} (h : Ow w base e k enc v l) {p : Addr} (hp : ∀ g, v.ownBlock = some g → p.block ≠ g) (u : Value) : Ow (w.setCell p u) base e k enc v l := by
  refine ⟨h.1, ?_⟩
  rcases h.2 with hn | ⟨g, cap, cur, rfl, hb, hgg, rest⟩
  · exact .inl hn
  · exact .inr ⟨g, cap, cur, rfl, hb, by rw [Below.heap_setCell _ _ _ _ (fun e => hp g rfl e.symm)]; exact hgg, rest⟩
open Classical in
/-- What DiskWrite answers. -/
noncomputable def writeDo (d : Dk) (a : Int) (t : ByteArray) : Do :=
  if 8000 < t.size then illDo 2 else if ¬ (Right d ∧ t.size ≤ 64) then illDo 1 else if ¬ (0 ≤ a ∧ a < d.S.length) then illDo 8 else if d.P.length = 200 then illDo 9 else ⟨⟨d.S, d.P ++ [(a, t)]⟩, ⟨#[]⟩, 0⟩
open Classical in
theorem write_size {d : Dk} {a : Int} {t : ByteArray} (h : 8000 < t.size) : writeDo d a t = illDo 2 := by unfold writeDo; rw [if_pos h]
open Classical in
theorem write_form {d : Dk} {a : Int} {t : ByteArray} (h : ¬ 8000 < t.size) (h1 : ¬ (Right d ∧ t.size ≤ 64)) : writeDo d a t = illDo 1 := by unfold writeDo; rw [if_neg h, if_pos h1]
open Classical in
theorem write_range {d : Dk} {a : Int} {t : ByteArray} (h1 : Right d) (h2 : t.size ≤ 64) (h3 : ¬ (0 ≤ a ∧ a < d.S.length)) : writeDo d a t = illDo 8 := by
  unfold writeDo; rw [if_neg (by omega), if_neg (fun h => h ⟨h1, h2⟩), if_pos h3]
open Classical in
theorem write_full {d : Dk} {a : Int} {t : ByteArray} (h1 : Right d) (h2 : t.size ≤ 64) (h3 : 0 ≤ a ∧ a < d.S.length) (h4 : d.P.length = 200) : writeDo d a t = illDo 9 := by
  unfold writeDo; rw [if_neg (by omega), if_neg (fun h => h ⟨h1, h2⟩), if_neg (fun h => h h3), if_pos h4]
open Classical in
theorem write_ok {d : Dk} {a : Int} {t : ByteArray} (h1 : Right d) (h2 : t.size ≤ 64) (h3 : 0 ≤ a ∧ a < d.S.length) (h4 : ¬ d.P.length = 200) : writeDo d a t = ⟨⟨d.S, d.P ++ [(a, t)]⟩, ⟨#[]⟩, 0⟩ := by
  unfold writeDo; rw [if_neg (by omega), if_neg (fun h => h ⟨h1, h2⟩), if_neg (fun h => h h3), if_neg h4]

end Go.Proofs.YthchlfllcnlmjaaGreatDoor

/-! Plain mathematics of what is pending: the last one of a place, a flush, a read; and a map that holds it. -/
namespace Go.Proofs.YthchlfllcnlmjaaGreatDoor
open Go.RowKit Go.Maps

/-- The last that is pending of a place. -/
def lastOf (P : List Pd) (a : Int) : Option ByteArray := P.foldl (fun r p => if p.1 = a then some p.2 else r) none
theorem lastOf_nil (a : Int) : lastOf [] a = none := rfl
theorem lastOf_snoc (P : List Pd) (p : Pd) (a : Int) : lastOf (P ++ [p]) a = if p.1 = a then some p.2 else lastOf P a := by simp [lastOf, List.foldl_append]
theorem lastOf_from (a : Int) (t : ByteArray) : ∀ (P : List Pd) (r : Option ByteArray), P.foldl (fun r p => if p.1 = a then some p.2 else r) r = some t → (a, t) ∈ P ∨ r = some t := by
  intro P
  induction P with
  | nil => intro r h; exact .inr h
  | cons p P ih =>
    intro r h
    rw [List.foldl_cons] at h
    rcases ih _ h with h1 | h1
    · exact .inl (List.mem_cons_of_mem _ h1)
    · by_cases hp : p.1 = a
      · rw [if_pos hp] at h1
        obtain ⟨x, y⟩ := p
        simp at h1 hp
        subst h1 hp
        exact .inl List.mem_cons_self
      · rw [if_neg hp] at h1
        exact .inr h1
theorem lastOf_mem (P : List Pd) (a : Int) (t : ByteArray) (h : lastOf P a = some t) : (a, t) ∈ P := by
  rcases lastOf_from a t P none h with h | h
  · exact h
  · cases h

/-- What the sectors are when all that is pending is in them. -/
def flushS (S : List ByteArray) (P : List Pd) : List ByteArray := (List.range S.length).map fun (i : Nat) => (lastOf P (i : Int)).getD (S.getD i ⟨#[]⟩)
theorem flushS_len (S : List ByteArray) (P : List Pd) : (flushS S P).length = S.length := by simp [flushS]
theorem flushS_get (S : List ByteArray) (P : List Pd) (i : Nat) (h : i < S.length) : (flushS S P)[i]? = some ((lastOf P (i : Int)).getD S[i]) := by
  simp [flushS, h]
theorem flushS_nil (S : List ByteArray) : flushS S [] = S := by
  apply List.ext_getElem (flushS_len S [])
  intro i h1 h2
  have := flushS_get S [] i h2
  rw [List.getElem?_eq_getElem h1] at this
  simpa [lastOf_nil] using this
theorem flushS_eq (S : List ByteArray) (P : List Pd) (L : List ByteArray) (hl : L.length = S.length) (h : ∀ (i : Nat) (hi : i < S.length), L[i]? = some ((lastOf P (i : Int)).getD S[i])) : L = flushS S P := by
  apply List.ext_getElem (by rw [hl, flushS_len])
  intro i h1 h2
  have h3 : i < S.length := by omega
  have e1 := h i h3
  have e2 := flushS_get S P i h3
  rw [List.getElem?_eq_getElem h1] at e1
  rw [List.getElem?_eq_getElem h2] at e2
  rw [Option.some.inj e1, Option.some.inj e2]
theorem flushS_snoc (S : List ByteArray) (P : List Pd) (k : Nat) (t : ByteArray) (hk : k < S.length) : flushS S (P ++ [((k : Int), t)]) = (flushS S P).set k t := by
  symm
  apply flushS_eq
  · rw [List.length_set, flushS_len]
  · intro i hi
    rw [lastOf_snoc, List.getElem?_set]
    by_cases h : k = i
    · subst h; simp [flushS_len, hk]
    · rw [if_neg h, if_neg (by simp; omega), flushS_get S P i hi]

/-- A map that holds what is pending, by its place. -/
def MapIs (D : DataW Unit) (P : List Pd) : Prop := ∀ a : Int, (has D (.int .i64 a) = (lastOf P a).isSome) ∧ ∀ s, lastOf P a = some s → ∀ z, D.atKey (.int .i64 a) z = .lit (.string s.data.toList)
theorem mapIs_nil : MapIs (.map []) [] := fun a => ⟨rfl, fun s h => by simp [lastOf_nil] at h⟩
theorem MapIs.put {D : DataW Unit} {P : List Pd} (h : MapIs D P) (hD : IsMap D) (a : Int) (t : ByteArray) : MapIs (D.put (.int .i64 a) (.lit (.string t.data.toList))) (P ++ [(a, t)]) := by
  intro b
  rw [lastOf_snoc]
  by_cases hb : a = b
  · subst hb
    rw [if_pos rfl]
    exact ⟨has_put_same hD (show WideAt.IsKeyLit (.int .i64 a) from trivial) _, fun s hs z => by
      have := Option.some.inj hs
      subst this
      exact atKey_put_same hD (show WideAt.IsKeyLit (.int .i64 a) from trivial) _ z⟩
  · rw [if_neg hb]
    have hne : (Lit.int .i64 b : Lit) ≠ Lit.int .i64 a := by simp; exact fun e => hb e.symm
    exact ⟨by rw [has_put_other hne]; exact (h b).1, fun s hs z => by rw [atKey_put_other hne]; exact (h b).2 s hs z⟩

theorem bytes_back (a b : ByteArray) (h : (DataW.lit (.string a.data.toList) : DataW Unit) = .lit (.string b.data.toList)) : a = b := by
  injection h with h
  injection h with h
  exact ByteArray.ext (Array.toList_inj.1 h)

open Classical in
/-- What DiskFlush answers. -/
noncomputable def flushDo (d : Dk) : Do := if Right d then ⟨⟨flushS d.S d.P, []⟩, ⟨#[]⟩, 0⟩ else illDo 1
open Classical in
theorem flush_ok {d : Dk} (h : Right d) : flushDo d = ⟨⟨flushS d.S d.P, []⟩, ⟨#[]⟩, 0⟩ := by unfold flushDo; rw [if_pos h]
open Classical in
theorem flush_form {d : Dk} (h : ¬ Right d) : flushDo d = illDo 1 := by unfold flushDo; rw [if_neg h]
/-- What a sector reads as. -/
def readT (d : Dk) (k : Nat) : ByteArray := (lastOf d.P (k : Int)).getD (d.S.getD k ⟨#[]⟩)
open Classical in
/-- What DiskRead answers. -/
noncomputable def readDo (d : Dk) (a : Int) : Do := if ¬ Right d then illDo 1 else if ¬ (0 ≤ a ∧ a < d.S.length) then illDo 8 else ⟨d, readT d a.toNat, 0⟩
open Classical in
theorem read_form {d : Dk} {a : Int} (h : ¬ Right d) : readDo d a = illDo 1 := by unfold readDo; rw [if_pos h]
open Classical in
theorem read_range {d : Dk} {a : Int} (h : Right d) (h1 : ¬ (0 ≤ a ∧ a < d.S.length)) : readDo d a = illDo 8 := by unfold readDo; rw [if_neg (fun h' => h' h), if_pos h1]
open Classical in
theorem read_ok {d : Dk} {a : Int} (h : Right d) (h1 : 0 ≤ a ∧ a < d.S.length) : readDo d a = ⟨d, readT d a.toNat, 0⟩ := by unfold readDo; rw [if_neg (fun h' => h' h), if_neg (fun h' => h' h1)]
/-- What a crash leaves of what is pending. -/
def kept (P : List Pd) (keep : List Int) : List Pd := ((List.range P.length).filter fun i => decide (0 < keep.getD i 0)).map fun i => P.getD i (0, ⟨#[]⟩)
open Classical in
/-- What DiskCrash answers. -/
noncomputable def crashDk (d : Dk) (keep : List Int) : Dk := if 400 < keep.length then ⟨[], []⟩ else if ¬ Right d then d else ⟨flushS d.S (kept d.P keep), []⟩
open Classical in
theorem crash_size {d : Dk} {keep : List Int} (h : 400 < keep.length) : crashDk d keep = ⟨[], []⟩ := by unfold crashDk; rw [if_pos h]
open Classical in
theorem crash_form {d : Dk} {keep : List Int} (h : ¬ 400 < keep.length) (h1 : ¬ Right d) : crashDk d keep = d := by unfold crashDk; rw [if_neg h, if_pos h1]
open Classical in
theorem crash_ok {d : Dk} {keep : List Int} (h : ¬ 400 < keep.length) (h1 : Right d) : crashDk d keep = ⟨flushS d.S (kept d.P keep), []⟩ := by unfold crashDk; rw [if_neg h, if_neg (fun h' => h' h1)]

theorem kept_take_yes (P : List Pd) (keep : List Int) (k : Nat) (hk : k < P.length) (h : 0 < keep.getD k 0) : kept (P.take (k + 1)) keep = kept (P.take k) keep ++ [P[k]] := by
  have e1 : (P.take (k + 1)).length = k + 1 := by rw [List.length_take]; omega
  have e2 : (P.take k).length = k := by rw [List.length_take]; omega
  unfold kept
  rw [e1, e2, List.range_succ, List.filter_append, List.map_append]
  congr 1
  · apply List.map_congr_left
    intro i hi
    have : i < k := by have := (List.mem_filter.1 hi).1; simpa using this
    simp [List.getD_eq_getElem?_getD, this, Nat.lt_succ_of_lt this]
  · simp only [List.filter_cons, h, decide_true, if_true, List.filter_nil, List.map_cons, List.map_nil]
    simp [List.getD_eq_getElem?_getD, hk]
theorem kept_take_no (P : List Pd) (keep : List Int) (k : Nat) (hk : k < P.length) (h : ¬ 0 < keep.getD k 0) : kept (P.take (k + 1)) keep = kept (P.take k) keep := by
  have e1 : (P.take (k + 1)).length = k + 1 := by rw [List.length_take]; omega
  have e2 : (P.take k).length = k := by rw [List.length_take]; omega
  unfold kept
  rw [e1, e2, List.range_succ, List.filter_append]
  have : ([k].filter fun i => decide (0 < keep.getD i 0)) = [] := by
    simp only [List.filter_cons, List.filter_nil]
    rw [if_neg (by simpa using h)]
  rw [this, List.append_nil]
  apply List.map_congr_left
  intro i hi
  have : i < k := by have := (List.mem_filter.1 hi).1; simpa using this
  simp [List.getD_eq_getElem?_getD, this, Nat.lt_succ_of_lt this]
theorem kept_mem (P : List Pd) (keep : List Int) (p : Pd) (h : p ∈ kept P keep) : p ∈ P := by
  unfold kept at h
  obtain ⟨i, hi, rfl⟩ := List.mem_map.1 h
  have : i < P.length := by have := (List.mem_filter.1 hi).1; simpa using this
  rw [List.getD_eq_getElem?_getD, List.getElem?_eq_getElem this]
  exact List.getElem_mem this
theorem kept_len (P : List Pd) (keep : List Int) : (kept P keep).length ≤ P.length := by
  unfold kept
  rw [List.length_map]
  have := List.length_filter_le (fun i => decide (0 < keep.getD i 0)) (List.range P.length)
  simpa using this

end Go.Proofs.YthchlfllcnlmjaaGreatDoor

/-! A ledger of a walk: what has not changed below, which blocks are known whole, which disks read so, which disks the call owns. -/
namespace Go.Proofs.YthchlfllcnlmjaaGreatDoor
open Go.RowKit

structure Led (w W : World) (L : List (Nat × Obj)) (D O : List (Nat × Value × Dk)) : Prop where
  bel : Below w.heap.size w W
  blk : ∀ p ∈ L, W.heap[p.1]? = some p.2
  ats : ∀ p ∈ D, p.1 ≤ W.heap.size ∧ DkAt W p.1 p.2.1 p.2.2
  own : ∀ p ∈ O, DkOw W p.1 p.2.1 p.2.2

theorem Led.lift {w W W' : World} {L : List (Nat × Obj)} {D O : List (Nat × Value × Dk)} (h : Led w W L D O) (k : Below W.heap.size W W') : Led w W' L D O :=
  ⟨h.bel.trans (k.mono h.bel.size), fun p hp => keep_blk k (h.blk p hp), fun p hp => ⟨Nat.le_trans (h.ats p hp).1 k.size, (h.ats p hp).2.below (k.mono (h.ats p hp).1)⟩, fun p hp => (h.own p hp).lift k⟩
theorem Led.alloc {w W : World} {L : List (Nat × Obj)} {D O : List (Nat × Value × Dk)} (h : Led w W L D O) (o : Obj) : Led w (W.alloc o) ((W.heap.size, o) :: L) D O := by
  have h1 := h.lift ((Below.refl _ W).alloc (Nat.le_refl _) o)
  refine ⟨h1.bel, fun p hp => ?_, h1.ats, h1.own⟩
  rcases List.mem_cons.1 hp with rfl | hp
  · exact heap_alloc_new _ _
  · exact h1.blk p hp
/-- One block more is known whole. -/
theorem Led.know {w W : World} {L : List (Nat × Obj)} {D O : List (Nat × Value × Dk)} (h : Led w W L D O) {b : Nat} {o : Obj} (hb : W.heap[b]? = some o) : Led w W ((b, o) :: L) D O :=
  ⟨h.bel, fun p hp => by
    rcases List.mem_cons.1 hp with rfl | hp
    · exact hb
    · exact h.blk p hp, h.ats, h.own⟩
/-- A disk more that reads so. -/
theorem Led.read {w W : World} {L : List (Nat × Obj)} {D O : List (Nat × Value × Dk)} (h : Led w W L D O) {B : Nat} {v : Value} {d : Dk} (hb : B ≤ W.heap.size) (hd : DkAt W B v d) : Led w W L ((B, v, d) :: D) O :=
  ⟨h.bel, h.blk, fun p hp => by
    rcases List.mem_cons.1 hp with rfl | hp
    · exact ⟨hb, hd⟩
    · exact h.ats p hp, h.own⟩
/-- A disk more that is owned. -/
theorem Led.hold {w W : World} {L : List (Nat × Obj)} {D O : List (Nat × Value × Dk)} (h : Led w W L D O) {B : Nat} {v : Value} {d : Dk} (hd : DkOw W B v d) : Led w W L D ((B, v, d) :: O) :=
  ⟨h.bel, h.blk, h.ats, fun p hp => by
    rcases List.mem_cons.1 hp with rfl | hp
    · exact hd
    · exact h.own p hp⟩
theorem Led.drop {w W : World} {L : List (Nat × Obj)} {D O : List (Nat × Value × Dk)} {x : Nat × Value × Dk} (h : Led w W L D (x :: O)) : Led w W L D O := ⟨h.bel, h.blk, h.ats, fun p hp => h.own p (List.mem_cons_of_mem _ hp)⟩
theorem Led.unread {w W : World} {L : List (Nat × Obj)} {D O : List (Nat × Value × Dk)} {x : Nat × Value × Dk} (h : Led w W L (x :: D) O) : Led w W L D O := ⟨h.bel, h.blk, fun p hp => h.ats p (List.mem_cons_of_mem _ hp), h.own⟩
theorem Led.forget {w W : World} {L : List (Nat × Obj)} {D O : List (Nat × Value × Dk)} {x : Nat × Obj} (h : Led w W (x :: L) D O) : Led w W L D O := ⟨h.bel, fun p hp => h.blk p (List.mem_cons_of_mem _ hp), h.ats, h.own⟩
theorem Led.second {w W : World} {L : List (Nat × Obj)} {D O : List (Nat × Value × Dk)} {x y : Nat × Value × Dk} (h : Led w W L D (x :: y :: O)) : Led w W L D (x :: O) := ⟨h.bel, h.blk, h.ats, fun p hp => h.own p (by
  rcases List.mem_cons.1 hp with rfl | hp
  · exact List.mem_cons_self
  · exact List.mem_cons_of_mem _ (List.mem_cons_of_mem _ hp))⟩
/-- Blocks between lo and hi have been written. -/
theorem Led.within {w W W' : World} {L : List (Nat × Obj)} {D O : List (Nat × Value × Dk)} (h : Led w W L D O) {lo hi : Nat} (k : Within lo hi W W') (h0 : w.heap.size ≤ lo) (hL : ∀ p ∈ L, p.1 < lo ∨ hi ≤ p.1) (hD : ∀ p ∈ D, p.1 ≤ lo) (hO : ∀ p ∈ O, hi ≤ p.1) : Led w W' L D O :=
  ⟨below_within h.bel k h0 h.bel.size, fun p hp => keep_within k (h.blk p hp) (hL p hp), fun p hp => ⟨Nat.le_trans (h.ats p hp).1 k.size, (h.ats p hp).2.kept k (hD p hp) (h.ats p hp).1⟩, fun p hp => (h.own p hp).kept k (hO p hp)⟩

theorem Led.b2 {w W : World} {L : List (Nat × Obj)} {D O : List (Nat × Value × Dk)} (h : Led w W L D O) {b : Nat} {x0 x1 : Value} {T : TypeId} (hm : (b, Obj.cells #[x0, x1] T (0, 0)) ∈ L) : W.cell? ⟨b, 0, none⟩ = some x0 ∧ W.cell? ⟨b, 1, none⟩ = some x1 ∧ b < W.heap.size := ⟨(box2 (h.blk _ hm)).1, (box2 (h.blk _ hm)).2, block_lt (h.blk _ hm)⟩
theorem Led.b4 {w W : World} {L : List (Nat × Obj)} {D O : List (Nat × Value × Dk)} (h : Led w W L D O) {b : Nat} {x0 x1 x2 x3 : Value} {T : TypeId} (hm : (b, Obj.cells #[x0, x1, x2, x3] T (0, 0)) ∈ L) : W.cell? ⟨b, 0, none⟩ = some x0 ∧ W.cell? ⟨b, 1, none⟩ = some x1 ∧ W.cell? ⟨b, 2, none⟩ = some x2 ∧ W.cell? ⟨b, 3, none⟩ = some x3 ∧ b < W.heap.size := by
  obtain ⟨h1, h2, h3, h4⟩ := box4 (h.blk _ hm)
  exact ⟨h1, h2, h3, h4, block_lt (h.blk _ hm)⟩
theorem Led.at_ {w W : World} {L : List (Nat × Obj)} {D O : List (Nat × Value × Dk)} (h : Led w W L D O) {B : Nat} {v : Value} {d : Dk} (hm : (B, v, d) ∈ D) : DkAt W W.heap.size v d := (h.ats _ hm).2.more (h.ats _ hm).1
theorem Led.ow {w W : World} {L : List (Nat × Obj)} {D O : List (Nat × Value × Dk)} (h : Led w W L D O) {B : Nat} {v : Value} {d : Dk} (hm : (B, v, d) ∈ O) : DkOw W B v d := h.own _ hm

theorem write_small (d : Dk) (a : Int) (t : ByteArray) (h : Small d) : (writeDo d a t).dk.S.length ≤ 1048576 ∧ (writeDo d a t).dk.P.length ≤ 1048577 := by
  have h1 := h.1
  have h2 := h.2.2.1
  classical
  unfold writeDo
  repeat' split
  all_goals simp [illDo]
  omega
/-- An answer of the call's own, its parts named; told in a ledger. -/
theorem OwnsDo.told {w : World} {o : Do} {e : Ending} {w' : World} (h : OwnsDo w o e w') : ∃ s p, e = .returned (.agg #[s, p, .string o.data, .int .i64 o.code]) ∧ DkOw w' w.heap.size (.agg #[s, p]) o.dk ∧ Below w.heap.size w w' := by
  obtain ⟨A1, c1, A2, c2, h1, h2, h3⟩ := h.parts
  exact ⟨_, _, h1, h2, h3⟩
theorem OwnsDk.told {w : World} {d : Dk} {e : Ending} {w' : World} (h : OwnsDk w d e w') : ∃ A1 c1 A2 c2, e = .returned (.agg #[.slice A1 d.S.length c1, .slice A2 d.P.length c2]) ∧ DkOw w' w.heap.size (.agg #[.slice A1 d.S.length c1, .slice A2 d.P.length c2]) d ∧ Below w.heap.size w w' := h.parts

end Go.Proofs.YthchlfllcnlmjaaGreatDoor

/-! A region that draws its order, walked once, with a ledger. -/
namespace Go.Proofs.YthchlfllcnlmjaaGreatDoor
open Go.RowKit

theorem wp_region_calm_led {P : Program} {id : Nat} {Q : Exit → Act → World → Prop} {a : Act} {w w0 : World} {l : List Oper} {L : List (Nat × Obj)} {D O : List (Nat × Value × Dk)} (N : List (Nat × (Value → Prop) × (Value → World → Prop))) (hm : P.follows .mixedOrders = true) (hB : lexHead0 .any l.toArray = true)
    (hN : ∀ p ∈ N, ∀ v, Mono (p.2.2 v)) (h0 : Led w0 w L D O)
    (h : wpCalm P l.toArray .any (fun W => Led w0 W L D O) N (fun a' F => ∀ w', Led w0 w' L D O → (∀ k, F k w') → Q .normal a' w') l 0 a noF) : (Code.region id l.toArray true).wp P Q a w :=
  wp_region_calm (fun W => Led w0 W L D O) N hm hB (fun _ _ hb h => h.lift hb) (monoN_of hN) (h0.lift (Below.refl w.heap.size w).drew) h
theorem wp_region_calm_led_tail {P : Program} {id : Nat} {Q : Exit → Act → World → Prop} {a : Act} {w w0 : World} {l : List Oper} {L : List (Nat × Obj)} {D O : List (Nat × Value × Dk)} (N : List (Nat × (Value → Prop) × (Value → World → Prop))) (n : Nat) (hm : P.follows .mixedOrders = true) (hB : Region.lexTailB .any l.toArray n = true)
    (hN : ∀ p ∈ N, ∀ v, Mono (p.2.2 v)) (h0 : Led w0 w L D O)
    (h : wpCalm P l.toArray .any (fun W => Led w0 W L D O) N (fun a' F => ∀ w', Led w0 w' L D O → (∀ k, F k w') → wpList P l.toArray Q (l.drop n) a' w') (l.take n) 0 a noF) : (Code.region id l.toArray true).wp P Q a w :=
  wp_region_calm_tail (fun W => Led w0 W L D O) N n hm hB (fun _ _ hb h => h.lift hb) (monoN_of hN) (h0.lift (Below.refl w.heap.size w).drew) h

end Go.Proofs.YthchlfllcnlmjaaGreatDoor
