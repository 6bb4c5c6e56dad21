/-
  Contracts of the copies of an input: toStringS, toPending, toPendingS, toDisk.
-/
import Derived.Test.YtognfiiplclpaaaDoorProg
import Derived.Test.YtognfiiplclpaaaDoorDiskM
import Derived.ProofKit
import Derived.WalkSmall
import Derived.Laws.MakeOwn
namespace Go.Proofs.YtognfiiplclpaaaDoor
open Go.ChangeShapes Go.WideShapes Go.ChangeAt Go.RowKit

theorem infoStr : (Tryd.prog.info? 9).map (fun i => (i.zero, i.size, i.bytes)) = some (some (.string ⟨#[]⟩), 1, 16) := by kernel_rfl
theorem infoPend : (Tryd.prog.info? 72).map (fun i => (i.zero, i.size, i.bytes)) = some (some (.agg #[.int .i64 0, .string ⟨#[]⟩]), 2, 24) := by kernel_rfl

theorem block_some {w : World} {b : Nat} {cs : Array Value} {t : TypeId} (h : w.heap[b]? = some (.cells cs t (0, 0))) (k : Nat) (hk : k < cs.size) : ∃ x, w.cell? ⟨b, k, none⟩ = some x := ⟨_, block_cell h k hk⟩

/-- 'make' of a row: what it lays under a name. -/
theorem make_row (T E : TypeId) (z : Value) (size bytes : Nat) (hT : Tryd.prog.underlying T = some (.slice E)) (hI : (Tryd.prog.info? E).map (fun i => (i.zero, i.size, i.bytes)) = some (some z, size, bytes)) (n : Nat) (h : n * bytes ≤ 281474976710656) (h2 : n ≤ 9223372036854775807) :
    ∃ M : Array Value, M = madeCells z.cells (n * size) ∧ M.size = n * size ∧ ∀ W : World, (Instr.makeSlice T (.int .i64 (n : Int)) (.int .i64 (n : Int))).run Tryd.prog W = .ok (.slice (some ⟨W.heap.size, 0, none⟩) n n) (W.alloc (.cells M E)) := by
  obtain ⟨i0, hi, hz0, hz1, hz2⟩ := info_parts hI
  refine ⟨madeCells z.cells (n * size), rfl, by rw [size_madeCells], fun W => ?_⟩
  have hb : (i0.bytes : Int) * (n : Int) ≤ 281474976710656 := by
    have h' : ((i0.bytes * n : Nat) : Int) ≤ 281474976710656 := by rw [hz2, Nat.mul_comm]; omega
    rwa [Int.natCast_mul] at h'
  have h := run_make (P := Tryd.prog) W T E i0 z hT hi hz0 .i64 .i64 (n : Int) (n : Int) (by omega) (by omega) hb (by omega)
  rw [← hz1]
  simpa using h

/-- What a copy gives: a slice of the call's own. -/
def Owns {α : Type} (w : World) (E : TypeId) (k : Nat) (enc : α → List Value) (l : List α) (e : Ending) (w' : World) : Prop := ∃ v, e = .returned v ∧ Ow w' w.heap.size E k enc v l ∧ Below w.heap.size w w'

theorem row_lit {w : World} {g : Nat} {E : TypeId} {cs : Array Value} {xs : List Value} (hg : w.heap[g]? = some (.cells cs E (0, 0))) (base n k : Nat) (hb : base ≤ g) (hm : n ≤ maxLen) (hs : cs.size = n * k) (hx : cs.toList = xs) : w.ownsRow base E k (.slice (some ⟨g, 0, none⟩) n n) n xs :=
  ⟨by rw [← hx, Array.length_toList, hs], .inr ⟨g, n, cs, rfl, hb, hg, Nat.le_refl _, hm, hs, by rw [hx, List.take_of_length_le (by rw [← hx, Array.length_toList, hs]; exact Nat.le_refl _)]⟩⟩

theorem flat_one {α : Type} (f : α → Value) (l : List α) : (l.flatMap fun x => [f x]) = l.map f := by
  induction l with
  | nil => rfl
  | cons x l ih => simp [List.flatMap_cons, ih]

theorem set_take_one (cur : Array Value) (k : Nat) (xs : List Value) (u : Value) (hk : k < cur.size) (h : cur.toList.take k = xs) : (cur.setIfInBounds k u).toList.take (k + 1) = xs ++ [u] := by
  rw [Array.toList_setIfInBounds, List.take_succ_eq_append_getElem (by simpa using hk), List.take_set, List.set_eq_of_length_le (by rw [List.length_take]; omega), h]
  simp

set_option maxRecDepth 100000 in
theorem to_strings (v : Value) (S : List ByteArray) (w : World) (hv : Sl w w.heap.size 1 encS v S) (hS : S.length ≤ 1048576) :
    Calls Tryd.prog 23 #[v] w (Owns w 9 1 encS S) := by
  obtain ⟨A, c, rfl⟩ := hv.form
  have HV := Lib.hid hv
  clear hv
  obtain ⟨M, -, hMs, hmk⟩ := make_row 22 9 _ 1 16 Tryd.underlying22 infoStr S.length (by omega) (by omega)
  have HM := Lib.hid hMs; clear hMs
  go_enter Tryd.func23, Tryd.ntmps23
  go_wp2
  go_loopw [4] (fun i wr => ∃ (k : Nat) (cur : Array Value), k ≤ S.length ∧ i = .int .i64 k ∧ wr.heap[w.heap.size]? = some (.cells cur 9 (0, 0)) ∧ cur.size = S.length * 1 ∧ cur.toList.take k = (S.take k).map Value.string ∧ Below w.heap.size w wr) (fun i _ => S.length - (intOf i).toNat)
  case atStart => exact ⟨0, M, by omega, rfl, heap_alloc_new _ _, HM.out, rfl, (Below.refl _ _).alloc (Nat.le_refl _) _⟩
  case round =>
    obtain ⟨k, cur, hk, rfl, hg, hs, ht, hb⟩ := hrel
    have HG := Lib.hid hg; have HS := Lib.hid hs; have HT := Lib.hid ht; have HB := Lib.hid hb
    by_cases hlt : k < S.length
    · obtain ⟨ad, c', e', _, hc⟩ := (HV.out.below hb).one k hlt
      obtain ⟨y, hcell⟩ := block_some hg k (by omega)
      have hfree := block_free hg k
      clear hb hg hs ht
      simp only [Value.slice.injEq, true_and] at e'
      obtain ⟨rfl, rfl⟩ := e'
      obtain ⟨t, ht⟩ : ∃ t, t = S[k] := ⟨_, rfl⟩
      rw [← ht] at hc
      have HX := Lib.hid ht; clear ht
      go_wp2
      go_roundw
      case rel => exact ⟨k + 1, _, by omega, by go_num, block_set HG.out k _, by rw [Array.size_setIfInBounds]; exact HS.out, by
        rw [set_take_one cur k _ _ (by have := HS.out; omega) HT.out, List.take_succ_eq_append_getElem hlt, List.map_append, HX.out]; rfl, HB.out.setCell (by simp) _⟩
      case measure => simp [intOf]; omega
    · have hks : k = S.length := by omega
      subst hks
      clear hb hg hs ht
      go_wp2
      go_ret
      refine ⟨_, rfl, row_lit HG.out _ _ 1 (Nat.le_refl _) (by unfold maxLen; omega) HS.out ?_, HB.out⟩
      have h := HT.out
      rw [List.take_of_length_le (by rw [Array.length_toList, HS.out]; omega), List.take_of_length_le (Nat.le_refl _)] at h
      rw [h]; exact (flat_one Value.string S).symm

theorem to_pending (p : Pd) (w : World) :
    Calls Tryd.prog 47 #[.agg #[.int .i64 p.1, .string p.2]] w fun e w' => e = .returned (.agg #[.int .i64 p.1, .string p.2]) ∧ Below w.heap.size w w' := by
  go_enter Tryd.func47, Tryd.ntmps47
  go_wp2
  refine bodyPost_ret (v := .agg #[.int .i64 p.1, .string p.2]) (by simp [results, Tryd.results47, go_sem]) rfl ⟨rfl, ?_⟩
  repeat' (first | exact Below.refl _ _ | refine Below.setCell ?_ (by simp) _ | refine Below.alloc ?_ (by first | exact Nat.le_refl _ | (simp only [World.size_alloc]; omega)) _)

theorem set_take_two (cur : Array Value) (k : Nat) (xs : List Value) (u v : Value) (hk : k * 2 + 1 < cur.size) (h : cur.toList.take (k * 2) = xs) : ((cur.setIfInBounds (k * 2) u).setIfInBounds (k * 2 + 1) v).toList.take ((k + 1) * 2) = xs ++ [u, v] := by
  have e1 : (k + 1) * 2 = k * 2 + 1 + 1 := by omega
  rw [e1, set_take_one _ _ (xs ++ [u]) v (by rw [Array.size_setIfInBounds]; exact hk) (set_take_one _ _ xs u (by omega) h)]
  simp

set_option maxRecDepth 100000 in
theorem to_pendings (v : Value) (P : List Pd) (w : World) (hv : Sl w w.heap.size 2 encP v P) (hP : P.length ≤ 1048576) :
    Calls Tryd.prog 24 #[v] w (Owns w 72 2 encP P) := by
  obtain ⟨A, c, rfl⟩ := hv.form
  have HV := Lib.hid hv
  clear hv
  obtain ⟨M, -, hMs, hmk⟩ := make_row 27 72 _ 2 24 Tryd.underlying27 infoPend P.length (by omega) (by omega)
  have HM := Lib.hid hMs; clear hMs
  go_enter Tryd.func24, Tryd.ntmps24
  go_wp2
  go_loopw [4] (fun i wr => ∃ (k : Nat) (cur : Array Value), k ≤ P.length ∧ i = .int .i64 k ∧ wr.heap[w.heap.size]? = some (.cells cur 72 (0, 0)) ∧ cur.size = P.length * 2 ∧ cur.toList.take (k * 2) = (P.take k).flatMap encP ∧ Below w.heap.size w wr) (fun i _ => P.length - (intOf i).toNat)
  case atStart => exact ⟨0, M, by omega, rfl, heap_alloc_new _ _, HM.out, rfl, (Below.refl _ _).alloc (Nat.le_refl _) _⟩
  case round =>
    obtain ⟨k, cur, hk, rfl, hg, hs, ht, hb⟩ := hrel
    have HG := Lib.hid hg; have HS := Lib.hid hs; have HT := Lib.hid ht; have HB := Lib.hid hb
    by_cases hlt : k < P.length
    · obtain ⟨ad, c', e', _, hc1, hc2⟩ := (HV.out.below hb).two k hlt
      clear hb hg hs ht
      simp only [Value.slice.injEq, true_and] at e'
      obtain ⟨rfl, rfl⟩ := e'
      obtain ⟨t, ht⟩ : ∃ t, t = P[k] := ⟨_, rfl⟩
      rw [← ht] at hc1 hc2
      have HX := Lib.hid ht; clear ht
      have hzr : w.heap.size < wr.heap.size := block_lt HG.out
      go_wp2_with fail
      refine (to_pending t _).mono ?_
      rintro e w1 ⟨rfl, hb1⟩
      have hg1 : w1.heap[w.heap.size]? = some (.cells cur 72 (0, 0)) := by rw [hb1.block _ hzr]; exact HG.out
      obtain ⟨y0, hcell0⟩ := block_some hg1 (k * 2) (by have := HS.out; omega)
      obtain ⟨y1, hcell1⟩ := block_some hg1 (k * 2 + 1) (by have := HS.out; omega)
      have hfree0 := block_free hg1 (k * 2)
      have hfree1 := block_free hg1 (k * 2 + 1)
      have HG1 := Lib.hid hg1
      have HB1 := Lib.hid (below_call HB.out HB.out.size hb1)
      clear hg1 hb1
      go_wp2
      go_roundw
      case rel => exact ⟨k + 1, _, by omega, by go_num, block_set (block_set HG1.out (k * 2) _) (k * 2 + 1) _, by rw [Array.size_setIfInBounds, Array.size_setIfInBounds]; exact HS.out, by
        rw [set_take_two cur k _ _ _ (by have := HS.out; omega) HT.out, List.take_succ_eq_append_getElem hlt, List.flatMap_append, HX.out]; rfl, (HB1.out.setCell (by simp) _).setCell (by simp) _⟩
      case measure => simp [intOf]; omega
    · have hks : k = P.length := by omega
      subst hks
      clear hb hg hs ht
      go_wp2
      go_ret
      refine ⟨_, rfl, row_lit HG.out _ _ 2 (Nat.le_refl _) (by unfold maxLen; omega) HS.out ?_, HB.out⟩
      have h := HT.out
      rw [List.take_of_length_le (by rw [Array.length_toList, HS.out]; omega), List.take_of_length_le (Nat.le_refl _)] at h
      exact h

/-- A disk's value that owns its memory, in blocks from base on. -/
def DkOw (w : World) (base : Nat) (v : Value) (d : Dk) : Prop := ∃ vs vp, v = .agg #[vs, vp] ∧ Ow w base 9 1 encS vs d.S ∧ Ow w base 72 2 encP vp d.P
theorem DkOw.at_ {w : World} {base : Nat} {v : Value} {d : Dk} (h : DkOw w base v d) : DkAt w w.heap.size v d := by
  obtain ⟨vs, vp, rfl, h1, h2⟩ := h
  exact ⟨vs, vp, rfl, h1.sl encS_len, h2.sl encP_len⟩
theorem DkOw.lift {w w' : World} {base : Nat} {v : Value} {d : Dk} (h : DkOw w base v d) (hb : Below w.heap.size w w') : DkOw w' base v d := by
  obtain ⟨vs, vp, rfl, h1, h2⟩ := h
  exact ⟨vs, vp, rfl, h1.lift hb, h2.lift hb⟩
theorem DkOw.base {w : World} {base base' : Nat} {v : Value} {d : Dk} (h : DkOw w base v d) (hb : base' ≤ base) : DkOw w base' v d := by
  obtain ⟨vs, vp, rfl, h1, h2⟩ := h
  exact ⟨vs, vp, rfl, h1.base hb, h2.base hb⟩
/-- A disk of the call's own. -/
def OwnsDk (w : World) (d : Dk) (e : Ending) (w' : World) : Prop := ∃ v, e = .returned v ∧ DkOw w' w.heap.size v d ∧ Below w.heap.size w w'

set_option maxRecDepth 100000 in
theorem to_disk (v : Value) (d : Dk) (w : World) (hv : DkAt w w.heap.size v d) (h1 : d.S.length ≤ 1048576) (h2 : d.P.length ≤ 1048576) :
    Calls Tryd.prog 7 #[v] w (OwnsDk w d) := by
  obtain ⟨vs, vp, rfl, hs, hp⟩ := hv
  have H1 := Lib.hid (fun W (hb : Below w.heap.size w W) => to_strings vs d.S W ((hs.below hb).more hb.size) h1)
  have H2 := Lib.hid (fun W (hb : Below w.heap.size w W) => to_pendings vp d.P W ((hp.below hb).more hb.size) h2)
  clear hs hp h1 h2
  go_enter Tryd.func7, Tryd.ntmps7
  go_wp2_with fail
  refine (H1.out _ ?_).mono ?_
  · repeat' (first | exact Below.refl _ _ | refine Below.alloc ?_ (by first | exact Nat.le_refl _ | (simp only [World.size_alloc]; omega)) _)
  rintro e w1 ⟨v1, rfl, ho1, hb1⟩
  obtain ⟨A1, c1, rfl⟩ := ho1.form
  obtain ⟨hc, hf⟩ := bcell hb1
  have hz := hb1.size
  simp only [World.size_alloc] at hz
  have hz0 : w.heap.size < w1.heap.size := by omega
  have hz1 : w.heap.size + 1 < w1.heap.size := by omega
  have hz3 : w.heap.size + 1 + 1 < w1.heap.size := by omega
  have HB := Lib.hid (show Below w.heap.size w w1 from below_call (by repeat' (first | exact Below.refl _ _ | refine Below.alloc ?_ (by first | exact Nat.le_refl _ | (simp only [World.size_alloc]; omega)) _)) (by simp only [World.size_alloc]; omega) hb1)
  have HO1 := Lib.hid (ho1.base (base' := w.heap.size + 1 + 1 + 1) (by simp only [World.size_alloc]; omega))
  clear ho1 hb1
  go_wp2_with fail
  refine (H2.out _ ?_).mono ?_
  · exact HB.out.setCell (by simp only; omega) _
  rintro e w2 ⟨v2, rfl, ho2, hb2⟩
  obtain ⟨A2, c2, rfl⟩ := ho2.form
  have hz2 := hb2.size
  simp only [World.size_setCell] at hz2
  obtain ⟨hc2, hf2⟩ := bcell hb2
  have HO1' := Lib.hid ((HO1.out.far (p := ⟨w.heap.size + 1 + 1, 0, none⟩) (by simp only; omega) (.slice A1 d.S.length c1)).lift hb2)
  have HO2 := Lib.hid (ho2.base (base' := w.heap.size + 1 + 1 + 1) (by simp only [World.size_setCell]; omega))
  have HB2 := Lib.hid (below_call (HB.out.setCell (p := ⟨w.heap.size + 1 + 1, 0, none⟩) (by simp only; omega) (.slice A1 d.S.length c1)) (by simp only [World.size_setCell]; omega) hb2)
  clear ho2 hb2
  go_wp2
  refine bodyPost_ret (v := .agg #[.slice A1 d.S.length c1, .slice A2 d.P.length c2]) (by simp [results, Tryd.results7, go_sem, hc2, hc, hz1]) rfl ⟨_, rfl, ⟨_, _, rfl, ?_, ?_⟩, ?_⟩
  · exact (((HO1'.out.far (by simp only; omega) _).far (by simp only; omega) _).far (by simp only; omega) _).base (by omega)
  · exact (((HO2.out.far (by simp only; omega) _).far (by simp only; omega) _).far (by simp only; omega) _).base (by omega)
  · exact ((HB2.out.setCell (by simp only; omega) _).setCell (by simp only; omega) _).setCell (by simp only; omega) _

end Go.Proofs.YtognfiiplclpaaaDoor
