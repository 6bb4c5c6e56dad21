/-
  What is handed round of a doc: plain mathematics, and the marks' Next of a client.
-/
import Derived.Test.YtaggmcdfggmlhaaMksI
import Derived.Test.YtaggmcdfggmlhaaMkQ
import Derived.Test.YtaggmcdfggmlhaaUpQ
namespace Go.Proofs.Ytaggmcdfggmlhaa
set_option linter.unusedSimpArgs false
set_option linter.unusedVariables false
open Go.ChangeShapes Go.WideShapes Go.ChangeAt Go.RowKit

/-- The Next of a client among marks; 0 without one. -/
def ofK (l : List Nm) (c : Int) : Int := match l.find? (fun m => decide (m.c = c)) with
  | some m => m.k
  | none => 0
def NoneC (l : List Nm) (c : Int) (k : Nat) : Prop := ∀ j (h : j < l.length), j < k → ¬ l[j].c = c
theorem noneC_zero (l : List Nm) (c : Int) : NoneC l c 0 := fun _ _ h => absurd h (Nat.not_lt_zero _)
theorem noneC_step {l : List Nm} {c : Int} {k : Nat} (h : NoneC l c k) (hk : k < l.length) (he : ¬ l[k].c = c) : NoneC l c (k + 1) := fun j hj hlt => by
  by_cases e : j = k
  · subst e; exact he
  · exact h j hj (by omega)
theorem ofK_yes {l : List Nm} {c : Int} {k : Nat} (h : NoneC l c k) (hk : k < l.length) (he : l[k].c = c) : ofK l c = l[k].k := by
  have : l.find? (fun m => decide (m.c = c)) = some l[k] := by
    rw [List.find?_eq_some_iff_getElem]
    exact ⟨by simp [he], k, hk, rfl, fun j hj => by simp [h j (by omega) hj]⟩
  unfold ofK
  rw [this]
theorem ofK_no {l : List Nm} {c : Int} (h : NoneC l c l.length) : ofK l c = 0 := by
  have : l.find? (fun m => decide (m.c = c)) = none := by
    rw [List.find?_eq_none]
    intro x hx
    obtain ⟨j, hj, rfl⟩ := List.getElem_of_mem hx
    simp [h j hj hj]
  unfold ofK
  rw [this]
theorem ofK_there {l : List Nm} {c : Int} (hr : Rise nmK l) (h : ThereP nmK l ⟨c, 0⟩) : ∃ hs : spot nmK l ⟨c, 0⟩ < l.length, ofK l c = l[spot nmK l ⟨c, 0⟩].k := by
  obtain ⟨hs, he⟩ := h
  refine ⟨hs, ofK_yes (fun j hj hlt e => ?_) hs (by simpa [nmK] using congrArg Nm.c he)⟩
  have := spot_low nmK l ⟨c, 0⟩ j hj hlt
  simp [LessP, nmK] at this
  omega
theorem ofK_gone {l : List Nm} {c : Int} (hr : Rise nmK l) (h : ¬ ThereP nmK l ⟨c, 0⟩) : ofK l c = 0 := by
  refine ofK_no (fun j hj _ e => h ?_)
  have := there_of_mem hr (List.getElem_mem hj)
  have e2 : nmK l[j] = ⟨c, 0⟩ := by simp [nmK, e]
  rw [e2] at this
  exact this

/-- The item as not gone. -/
@[reducible] def offM (x : Im) : Im := ⟨x.i, x.l, x.r, x.t, false⟩
noncomputable def diffX (X : List Im) (l : List Nm) (k : Nat) : List Im := (X.take k).foldl (fun acc x => if ofK l x.i.c ≤ x.i.k then withR Im.i acc (offM x) else acc) []
noncomputable def diffH (X : List Im) (H : List Nm) (k : Nat) : List Nm := (X.take k).foldl (fun acc x => if x.g = true then withR nmI acc x.i else acc) H
theorem diffX_zero (X : List Im) (l : List Nm) : diffX X l 0 = [] := rfl
theorem diffH_zero (X : List Im) (H : List Nm) : diffH X H 0 = H := rfl
theorem diffX_yes {X : List Im} {l : List Nm} {k : Nat} (hk : k < X.length) (h : ofK l X[k].i.c ≤ X[k].i.k) : diffX X l (k + 1) = withR Im.i (diffX X l k) (offM X[k]) := by
  unfold diffX
  rw [List.take_succ_eq_append_getElem hk, List.foldl_append]
  simp only [List.foldl_cons, List.foldl_nil, if_pos h]
theorem diffX_not {X : List Im} {l : List Nm} {k : Nat} (hk : k < X.length) (h : ¬ ofK l X[k].i.c ≤ X[k].i.k) : diffX X l (k + 1) = diffX X l k := by
  unfold diffX
  rw [List.take_succ_eq_append_getElem hk, List.foldl_append]
  simp only [List.foldl_cons, List.foldl_nil, if_neg h]
theorem diffH_yes {X : List Im} {H : List Nm} {k : Nat} (hk : k < X.length) (h : X[k].g = true) : diffH X H (k + 1) = withR nmI (diffH X H k) X[k].i := by
  unfold diffH
  rw [List.take_succ_eq_append_getElem hk, List.foldl_append]
  simp only [List.foldl_cons, List.foldl_nil, if_pos h]
theorem diffH_not {X : List Im} {H : List Nm} {k : Nat} (hk : k < X.length) (h : ¬ X[k].g = true) : diffH X H (k + 1) = diffH X H k := by
  unfold diffH
  rw [List.take_succ_eq_append_getElem hk, List.foldl_append]
  simp only [List.foldl_cons, List.foldl_nil, if_neg h]
theorem diffX_rise (X : List Im) (l : List Nm) (k : Nat) (hk : k ≤ X.length) : Rise Im.i (diffX X l k) ∧ (diffX X l k).length ≤ k := by
  induction k with
  | zero => exact ⟨rise_nil _, Nat.le_refl _⟩
  | succ k ih =>
    obtain ⟨h1, h2⟩ := ih (by omega)
    by_cases h : ofK l X[k].i.c ≤ X[k].i.k
    · rw [diffX_yes (by omega) h]
      exact ⟨with_rise h1 _, by have := (with_len Im.i (diffX X l k) (offM X[k])).2; omega⟩
    · rw [diffX_not (by omega) h]; exact ⟨h1, by omega⟩
theorem diffH_rise (X : List Im) (H : List Nm) (hH : Rise nmI H) (k : Nat) (hk : k ≤ X.length) : Rise nmI (diffH X H k) ∧ (diffH X H k).length ≤ H.length + k := by
  induction k with
  | zero => exact ⟨hH, Nat.le_refl _⟩
  | succ k ih =>
    obtain ⟨h1, h2⟩ := ih (by omega)
    by_cases h : X[k].g = true
    · rw [diffH_yes (by omega) h]
      exact ⟨with_rise h1 _, by have := (with_len nmI (diffH X H k) X[k].i).2; omega⟩
    · rw [diffH_not (by omega) h]; exact ⟨h1, by omega⟩
theorem holes_rise {d : Dc} (h : DocP d) : Rise nmI d.H := fun i hi hlt j e hj => (h.2.2.2.2 i hi hi).2.1 j e hj
noncomputable def diffD (d : Dc) (l : List Nm) : Up := if docB d = true ∧ marksB l = true then ⟨diffX d.X l d.X.length, diffH d.X d.H d.X.length⟩ else ⟨[], []⟩
theorem diffD_yes {d : Dc} {l : List Nm} (h : docB d = true) (h2 : marksB l = true) : diffD d l = ⟨diffX d.X l d.X.length, diffH d.X d.H d.X.length⟩ := if_pos ⟨h, h2⟩
theorem diffD_no {d : Dc} {l : List Nm} (h : docB d = false ∨ marksB l = false) : diffD d l = ⟨[], []⟩ := if_neg (fun hh => by
  rcases h with h | h
  · rw [h] at hh; exact Bool.false_ne_true hh.1
  · rw [h] at hh; exact Bool.false_ne_true hh.2)
theorem diffD_len (d : Dc) (l : List Nm) : (diffD d l).X.length ≤ d.X.length ∧ (diffD d l).H.length ≤ d.H.length + d.X.length := by
  by_cases h : docB d = true ∧ marksB l = true
  · rw [diffD_yes h.1 h.2]
    exact ⟨(diffX_rise d.X l _ (Nat.le_refl _)).2, (diffH_rise d.X d.H (holes_rise ((docB_iff d).1 h.1)) _ (Nat.le_refl _)).2⟩
  · unfold diffD; rw [if_neg h]; simp

theorem spec_of (v : Value) (l : List Nm) (n : Int) (w : World) (hv : Sl w w.heap.size 2 encN v l) (hl : l.length ≤ 140737488351232) :
    Calls Try.prog 159 #[v, .int .i64 n] w (Back (.int .i64 (ofK l n)) w) := by
  obtain ⟨A, c, rfl⟩ := hv.form
  have HV := Lib.hid hv; clear hv
  go_enter Try.func159, Try.ntmps159
  go_wp2
  go_loop [5] (fun i => ∃ k : Nat, k ≤ l.length ∧ i = .int .i64 k ∧ NoneC l n k) (fun i => l.length - (intOf i).toNat)
  case atStart => exact ⟨0, Nat.zero_le _, rfl, noneC_zero _ _⟩
  case round =>
    obtain ⟨k, hk, rfl, hn⟩ := hrel
    have HN := Lib.hid hn; clear hn
    by_cases hlt : k < l.length
    case neg =>
      obtain rfl : k = l.length := by omega
      have HE := Lib.hid (ofK_no HN.out)
      go_wp2
      go_ret
      exact ⟨ret_i64 HE.out.symm, Below.refl _ _⟩
    obtain ⟨ad, c', e', _, c0, c1⟩ := HV.out.two k hlt
    simp only [Value.slice.injEq, true_and] at e'
    obtain ⟨rfl, rfl⟩ := e'
    obtain ⟨x, hx⟩ : ∃ x, x = l[k] := ⟨_, rfl⟩
    rw [← hx] at c0 c1
    have HX := Lib.hid hx; clear hx
    by_cases he : x.c = n
    · have HE := Lib.hid (ofK_yes HN.out hlt (by rw [← HX.out]; exact he))
      go_wp2
      go_ret
      exact ⟨ret_i64 (by rw [HE.out, ← HX.out]), Below.refl _ _⟩
    · have HS := Lib.hid (noneC_step HN.out hlt (by rw [← HX.out]; exact he))
      go_wp2
      go_round
      case rel => exact ⟨k + 1, by omega, by go_num, HS.out⟩
      case measure => simp [intOf]; omega

set_option maxRecDepth 100000 in
theorem impl_nextIn (v : Value) (l : List Nm) (n : Int) (w : World) (hv : Sl w w.heap.size 2 encN v l) (hl : l.length ≤ 140737488351232) (hr : Rise nmK l) :
    Calls Try.prog 67 #[v, .int .i64 n] w (Back (.int .i64 (ofK l n)) w) := by
  have HF := Lib.hid (fun W (hb : Below w.heap.size w W) => impl_findK v l ⟨n, 0⟩ W ((hv.below hb).more hb.size) hl hr)
  obtain ⟨A, c, rfl⟩ := hv.form
  have HV := Lib.hid hv; clear hv
  have HB := Lib.hid (thereB_iff nmK l ⟨n, 0⟩)
  have hs := spot_le nmK l ⟨n, 0⟩
  have HT := Lib.hid (fun h => ofK_there (c := n) hr h); have HG := Lib.hid (fun h => ofK_gone (c := n) hr h)
  obtain ⟨s, hs2⟩ : ∃ s, s = spot nmK l ⟨n, 0⟩ := ⟨_, rfl⟩
  obtain ⟨b, hb2⟩ : ∃ b, b = thereB nmK l ⟨n, 0⟩ := ⟨_, rfl⟩
  have HS := Lib.hid hs2
  rw [← hs2] at HF hs
  rw [← hb2] at HF HB
  clear hs2 hb2
  cases b with
  | false =>
    have HE := Lib.hid (HG.out (fun h => by have := HB.out.2 h; cases this))
    go_enter Try.func67, Try.ntmps67
    go_wp2_with fail
    refine (impl_nmK ⟨n, 0⟩ _).mono ?_
    rintro e w1 ⟨rfl, hb1⟩
    go_wp2_with fail
    refine (HF.out _ hb1).mono ?_
    rintro e w2 ⟨rfl, hb2⟩
    go_wp2
    go_ret
    exact ⟨ret_i64 HE.out.symm, hb1.trans (hb2.mono hb1.size)⟩
  | true =>
    obtain ⟨hsl, hk⟩ := HT.out (HB.out.1 rfl)
    have hsl' : s < l.length := by rw [HS.out]; exact hsl
    have HE := Lib.hid (show ofK l n = l[s].k from by rw [hk]; simp only [HS.out])
    clear hsl hk
    have HVV := Lib.hid (fun W (hb : Below w.heap.size w W) => (HV.out.below hb).two s hsl')
    obtain ⟨x, hx⟩ : ∃ x, x = l[s] := ⟨_, rfl⟩
    rw [← hx] at HVV HE
    clear hx
    go_enter Try.func67, Try.ntmps67
    go_wp2_with fail
    refine (impl_nmK ⟨n, 0⟩ _).mono ?_
    rintro e w1 ⟨rfl, hb1⟩
    go_wp2_with fail
    refine (HF.out _ hb1).mono ?_
    rintro e w2 ⟨rfl, hb2⟩
    have HBW := Lib.hid (hb1.trans (hb2.mono hb1.size))
    clear hb1 hb2
    obtain ⟨ad, c', e', _, c0, c1⟩ := HVV.out _ HBW.out
    simp only [Value.slice.injEq, true_and] at e'
    obtain ⟨rfl, rfl⟩ := e'
    go_wp2
    go_ret
    exact ⟨ret_i64 HE.out.symm, HBW.out⟩

/-! Ledgers across a store into a box of the call's own. -/
theorem Lg.sub {w W : World} {L L' : List (Nat × Obj)} {F F' : List (World → Prop)} (h : Lg w W L F) (hL : ∀ p ∈ L', p ∈ L) (hF : ∀ p ∈ F', p ∈ F) : Lg w W L' F' :=
  ⟨h.bel, fun p hp => h.blk p (hL p hp), fun p hp => h.now p (hF p hp), fun p hp => h.mono p (hF p hp)⟩
theorem Lg.put {w W : World} {L : List (Nat × Obj)} {F F' : List (World → Prop)} {b : Nat} {cs : Array Value} {T : TypeId} (h : Lg w W ((b, .cells cs T (0, 0)) :: L) F) (j : Nat) (v : Value) (hb : w.heap.size ≤ b) (hL : ∀ p ∈ L, p.1 ≠ b)
    (hF : ∀ p ∈ F', p (W.setCell ⟨b, j, none⟩ v)) (hm : ∀ p ∈ F', Mono p) : Lg w (W.setCell ⟨b, j, none⟩ v) ((b, .cells (cs.setIfInBounds j v) T (0, 0)) :: L) F' := by
  refine ⟨bset h.bel v hb, fun p hp => ?_, hF, hm⟩
  rcases List.mem_cons.1 hp with rfl | hp
  · exact block_set (h.blk _ List.mem_cons_self) j v
  · exact set_there (h.blk p (List.mem_cons_of_mem _ hp)) v (hL p hp)
theorem own_box {α : Type} {w : World} {base b j k : Nat} {E T : TypeId} {cs : Array Value} {enc : α → List Value} {v : Value} {l : List α} (h : Ow w base E k enc v l) (hb : w.heap[b]? = some (.cells cs T (0, 0))) (hne : E ≠ T) (u : Value) : Ow (w.setCell ⟨b, j, none⟩ u) base E k enc v l := by
  refine own_aside h (fun g hg e => hne ?_) u
  subst e
  rcases h.2 with ⟨rfl, _⟩ | ⟨g2, cap, cur, rfl, _, hgg, _⟩
  · cases hg
  · simp only [Value.ownBlock, Option.some.injEq] at hg
    subst hg
    rw [hgg] at hb
    simp only [Option.some.injEq, Obj.cells.injEq] at hb
    exact hb.2.1

end Go.Proofs.Ytaggmcdfggmlhaa
