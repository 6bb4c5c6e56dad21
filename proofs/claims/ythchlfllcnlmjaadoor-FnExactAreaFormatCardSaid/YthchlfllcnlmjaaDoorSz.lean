/-
  Contracts of the measures of an input.
-/
import Derived.Test.YthchlfllcnlmjaaDoorProg
import Derived.Test.YthchlfllcnlmjaaDoorBase1
import Derived.ProofKit
import Derived.WalkSmall
namespace Go.Proofs.YthchlfllcnlmjaaDoor
open Go.ChangeShapes Go.WideShapes Go.ChangeAt Go.RowKit

/-- A measure: what is left, or -1; if something is left, Q holds. -/
def SzR (w : World) (Q : Prop) (e : Ending) (w' : World) : Prop := ∃ r : Int, e = .returned (.int .i64 r) ∧ -1 ≤ r ∧ r ≤ 1048576 ∧ (0 ≤ r → Q) ∧ Below w.heap.size w w'

theorem sz_strings (v : Value) (S : List ByteArray) (left : Int) (w : World) (B : Nat) (hv : Sl w B 1 encS v S) (h0 : 0 ≤ left) (h1 : left ≤ 1048576) (hS : S.length ≤ 9223372036854775807) (hs : ∀ s ∈ S, s.size ≤ maxLen) :
    Calls Tryd.prog 13 #[v, .int .i64 left] w (SzR w (S.length ≤ 1048576 ∧ ∀ s ∈ S, s.size ≤ 1048576)) := by
  obtain ⟨A, c, rfl⟩ := hv.form
  have HV := Lib.hid hv; have HS := Lib.hid hs
  clear hv hs
  by_cases hl : left < S.length
  · go_enter Tryd.func13, Tryd.ntmps13
    go_wp2
    go_ret
    exact ⟨-1, rfl, by omega, by omega, fun h => by omega, Below.refl _ _⟩
  · go_enter Tryd.func13, Tryd.ntmps13
    go_wp2
    go_loop [1, 5] (fun x i => ∃ (k : Nat) (l : Int), k ≤ S.length ∧ i = .int .i64 k ∧ x = .int .i64 l ∧ 0 ≤ l ∧ l ≤ 1048576 ∧ ∀ j (hj : j < S.length), j < k → S[j].size ≤ 1048576) (fun _ i => S.length - (intOf i).toNat)
    case atStart => exact ⟨0, left - S.length, by omega, rfl, rfl, by omega, by omega, fun j _ hj => by omega⟩
    case round =>
      obtain ⟨k, l, hk, rfl, rfl, l0, l1, hj⟩ := hrel
      have HJ := Lib.hid hj; clear hj
      by_cases hlt : k < S.length
      · obtain ⟨ad, c', e', _, hc⟩ := HV.out.one k hlt
        simp only [Value.slice.injEq, true_and] at e'
        obtain ⟨rfl, rfl⟩ := e'
        have hm := HS.out _ (getElem_mem' S k hlt)
        unfold maxLen at hm
        obtain ⟨t, ht⟩ : ∃ t, t = S[k] := ⟨_, rfl⟩
        rw [← ht] at hc hm
        have HT := Lib.hid ht; clear ht
        by_cases hd : l < t.size
        · go_wp2
          go_ret
          exact ⟨-1, rfl, by omega, by omega, fun h => by omega, Below.refl _ _⟩
        · go_wp2
          go_round
          case rel => exact ⟨k + 1, l - t.size, by omega, by go_num, rfl, by omega, by omega, fun j hj hjk => by
            by_cases e : j = k
            · subst e; rw [← HT.out]; omega
            · exact HJ.out j hj (by omega)⟩
          case measure => simp [intOf]; omega
      · have hks : k = S.length := by omega
        subst hks
        go_wp2
        go_ret
        exact ⟨l, rfl, by omega, by omega, fun _ => ⟨by omega, fun s hs => by
          obtain ⟨j, hj, rfl⟩ := List.getElem_of_mem hs
          exact HJ.out j hj hj⟩, Below.refl _ _⟩

theorem sz_pending (p : Pd) (left : Int) (w : World) (h0 : 0 ≤ left) (h1 : left ≤ 1048576) (hs : p.2.size ≤ maxLen) :
    Calls Tryd.prog 32 #[.agg #[.int .i64 p.1, .string p.2], .int .i64 left] w (SzR w (p.2.size ≤ 1048576)) := by
  unfold maxLen at hs
  by_cases hl : left < p.2.size
  · go_enter Tryd.func32, Tryd.ntmps32
    go_wp2
    go_ret
    exact ⟨-1, rfl, by omega, by omega, fun h => by omega, (Below.refl _ _).alloc (Nat.le_refl _) _⟩
  · go_enter Tryd.func32, Tryd.ntmps32
    go_wp2
    go_ret
    exact ⟨left - p.2.size, rfl, by omega, by omega, fun h => by omega, (Below.refl _ _).alloc (Nat.le_refl _) _⟩

theorem sz_pendings (v : Value) (P : List Pd) (left : Int) (w : World) (hv : Sl w w.heap.size 2 encP v P) (h0 : 0 ≤ left) (h1 : left ≤ 1048576) (hS : P.length ≤ 9223372036854775807) (hs : ∀ p ∈ P, p.2.size ≤ maxLen) :
    Calls Tryd.prog 14 #[v, .int .i64 left] w (SzR w (P.length ≤ 1048576 ∧ ∀ p ∈ P, p.2.size ≤ 1048576)) := by
  obtain ⟨A, c, rfl⟩ := hv.form
  have HV := Lib.hid hv; have HS := Lib.hid hs
  clear hv hs
  by_cases hl : left < P.length
  · go_enter Tryd.func14, Tryd.ntmps14
    go_wp2
    go_ret
    exact ⟨-1, rfl, by omega, by omega, fun h => by omega, Below.refl _ _⟩
  · go_enter Tryd.func14, Tryd.ntmps14
    go_wp2
    go_loopw [1, 5] (fun x i wr => ∃ (k : Nat) (l : Int), k ≤ P.length ∧ i = .int .i64 k ∧ x = .int .i64 l ∧ 0 ≤ l ∧ l ≤ 1048576 ∧ Below w.heap.size w wr ∧ ∀ j (hj : j < P.length), j < k → P[j].2.size ≤ 1048576) (fun _ i _ => P.length - (intOf i).toNat)
    case atStart => exact ⟨0, left - P.length, by omega, rfl, rfl, by omega, by omega, Below.refl _ _, fun j _ hj => by omega⟩
    case round =>
      obtain ⟨k, l, hk, rfl, rfl, l0, l1, hb, hj⟩ := hrel
      have HJ := Lib.hid hj; clear hj
      have HB := Lib.hid hb
      by_cases hlt : k < P.length
      · obtain ⟨ad, c', e', _, hc1, hc2⟩ := (HV.out.below hb).two k hlt
        clear hb
        simp only [Value.slice.injEq, true_and] at e'
        obtain ⟨rfl, rfl⟩ := e'
        have HM := Lib.hid (HS.out _ (getElem_mem' P k hlt))
        obtain ⟨t, ht⟩ : ∃ t, t = P[k] := ⟨_, rfl⟩
        rw [← ht] at hc1 hc2 HM
        have HT := Lib.hid ht; clear ht
        go_wp2_with fail
        refine (sz_pending t l _ l0 l1 HM.out).mono ?_
        rintro e w1 ⟨r, rfl, r0, r1, hq, hb1⟩
        have HB1 := Lib.hid (below_call HB.out HB.out.size hb1)
        have HQ := Lib.hid hq; clear hq hb1
        by_cases hd : r < 0
        · go_wp2
          go_ret
          exact ⟨-1, rfl, by omega, by omega, fun h => by omega, HB1.out⟩
        · go_wp2
          go_roundw
          case rel => exact ⟨k + 1, r, by omega, by go_num, rfl, by omega, by omega, HB1.out, fun j hj hjk => by
            by_cases e : j = k
            · subst e; rw [← HT.out]; exact HQ.out (by omega)
            · exact HJ.out j hj (by omega)⟩
          case measure => simp [intOf]; omega
      · have hks : k = P.length := by omega
        subst hks
        clear hb
        go_wp2
        go_ret
        exact ⟨l, rfl, by omega, by omega, fun _ => ⟨by omega, fun s hs => by
          obtain ⟨j, hj, rfl⟩ := List.getElem_of_mem hs
          exact HJ.out j hj hj⟩, HB.out⟩

theorem sz_disk (v : Value) (d : Dk) (w : World) (hv : DkAt w w.heap.size v d) (hd : Held d) :
    Calls Tryd.prog 4 #[v, .int .i64 1048576] w (SzR w (Small d)) := by
  obtain ⟨vs, vp, rfl, h1, h2⟩ := hv
  obtain ⟨d1, d2, d3, d4, d5⟩ := hd
  have HD5 := Lib.hid d5
  have H1 := Lib.hid (fun W (hb : Below w.heap.size w W) => sz_strings vs d.S 1048576 W w.heap.size (h1.below hb) (by omega) (by omega) d1 d2)
  have H2 := Lib.hid (fun W (hb : Below w.heap.size w W) left (h0 : 0 ≤ left) (hl : left ≤ 1048576) => sz_pendings vp d.P left W ((h2.below hb).more hb.size) h0 hl d3 d4)
  clear h1 h2 d1 d2 d3 d4 d5
  go_enter Tryd.func4, Tryd.ntmps4
  go_wp2_with fail
  refine (H1.out _ ((Below.refl _ _).alloc (Nat.le_refl _) _)).mono ?_
  rintro e w1 ⟨r, rfl, r0, r1, hq, hb1⟩
  obtain ⟨hc, hf⟩ := bcell hb1
  have HQ := Lib.hid hq; clear hq
  have HB := Lib.hid (below_call ((Below.refl w.heap.size w).alloc (Nat.le_refl _) _) (by simp) hb1)
  clear hb1
  by_cases hr : r < 0
  · go_wp2
    go_ret
    exact ⟨-1, rfl, by omega, by omega, fun h => by omega, HB.out⟩
  · go_wp2_with fail
    refine (H2.out _ HB.out r (by omega) r1).mono ?_
    rintro e w2 ⟨r', rfl, r0', r1', hq', hb2⟩
    have HQ' := Lib.hid hq'; clear hq'
    have HB2 := Lib.hid (below_call HB.out HB.out.size hb2)
    clear hb2
    by_cases hr' : r' < 0
    · go_wp2
      go_ret
      exact ⟨-1, rfl, by omega, by omega, fun h => by omega, HB2.out⟩
    · go_wp2
      go_ret
      have hx := HQ.out (by omega)
      have hy := HQ'.out (by omega)
      exact ⟨r', rfl, by omega, by omega, fun h => ⟨hx.1, hx.2, hy.1, hy.2, HD5.out⟩, HB2.out⟩

end Go.Proofs.YthchlfllcnlmjaaDoor
