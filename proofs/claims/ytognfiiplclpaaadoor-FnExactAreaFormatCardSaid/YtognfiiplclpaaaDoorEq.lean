/-
  Contracts of the comparisons, at two values that read alike: yes.
-/
import Derived.Test.YtognfiiplclpaaaDoorTo
import Derived.BigQuiet
import Derived.IntWalk
import Derived.Deep.QuietTactic
import Derived.Deep.RegionWith
import Derived.RegionTactic
namespace Go.Proofs.YtognfiiplclpaaaDoor
open Go.ChangeShapes Go.WideShapes Go.ChangeAt Go.RowKit

/-- Yes, and nothing that was there has turned. -/
def Yes (w : World) (e : Ending) (w' : World) : Prop := e = .returned (.bool true) ∧ Below w.heap.size w w'

set_option maxRecDepth 100000 in
theorem eq_strings (v1 v2 : Value) (S : List ByteArray) (w : World) (h1 : Sl w w.heap.size 1 encS v1 S) (h2 : Sl w w.heap.size 1 encS v2 S) (hS : S.length ≤ 140737488351232) :
    Calls Tryd.prog 30 #[v1, v2] w (Yes w) := by
  obtain ⟨A1, c1, rfl⟩ := h1.form
  obtain ⟨A2, c2, rfl⟩ := h2.form
  have H1 := Lib.hid h1; have H2 := Lib.hid h2
  clear h1 h2
  have hne : ((S.length : Int) != (S.length : Int)) = false := by simp
  go_enter Tryd.func30, Tryd.ntmps30
  go_wp2
  go_loopw [5] (fun i wr => ∃ (k : Nat), k ≤ S.length ∧ i = .int .i64 k ∧ Below w.heap.size w wr) (fun i _ => S.length - (intOf i).toNat)
  case atStart => exact ⟨0, by omega, rfl, Below.refl _ _⟩
  case round =>
    obtain ⟨k, hk, rfl, hb⟩ := hrel
    have HB := Lib.hid hb
    by_cases hlt : k < S.length
    · obtain ⟨a1, c1', e1, _, hc1⟩ := (H1.out.below hb).one k hlt
      obtain ⟨a2, c2', e2, _, hc2⟩ := (H2.out.below hb).one k hlt
      clear hb hne
      simp only [Value.slice.injEq, true_and] at e1 e2
      obtain ⟨rfl, rfl⟩ := e1
      obtain ⟨rfl, rfl⟩ := e2
      generalize S[k] = t at hc1 hc2
      have hq := beq_yes t
      go_wp2
      go_quiet (fail)
      go_wp2
      go_roundw
      case rel => exact ⟨k + 1, by omega, by go_num, below_drewN' HB.out _⟩
      case measure => simp [intOf]; omega
    · have hks : k = S.length := by omega
      subst hks
      clear hb hne
      go_wp2
      go_ret
      exact ⟨rfl, HB.out⟩

theorem eq_pending (p : Pd) (w : World) :
    Calls Tryd.prog 57 #[.agg #[.int .i64 p.1, .string p.2], .agg #[.int .i64 p.1, .string p.2]] w (Yes w) := by
  have hq := beq_yes p.2
  have hn : (p.1 != p.1) = false := by simp
  go_enter Tryd.func57, Tryd.ntmps57
  go_wp2
  go_ret
  exact ⟨rfl, ((Below.refl _ _).alloc (Nat.le_refl _) _).alloc (by simp) _⟩

set_option maxRecDepth 100000 in
theorem eq_pendings (v1 v2 : Value) (P : List Pd) (w : World) (h1 : Sl w w.heap.size 2 encP v1 P) (h2 : Sl w w.heap.size 2 encP v2 P) (hP : P.length ≤ 140737488351232) :
    Calls Tryd.prog 31 #[v1, v2] w (Yes w) := by
  obtain ⟨A1, c1, rfl⟩ := h1.form
  obtain ⟨A2, c2, rfl⟩ := h2.form
  have H1 := Lib.hid h1; have H2 := Lib.hid h2
  clear h1 h2
  have hne : ((P.length : Int) != (P.length : Int)) = false := by simp
  go_enter Tryd.func31, Tryd.ntmps31
  go_wp2
  go_loopw [5] (fun i wr => ∃ (k : Nat), k ≤ P.length ∧ i = .int .i64 k ∧ Below w.heap.size w wr) (fun i _ => P.length - (intOf i).toNat)
  case atStart => exact ⟨0, by omega, rfl, Below.refl _ _⟩
  case round =>
    obtain ⟨k, hk, rfl, hb⟩ := hrel
    have HB := Lib.hid hb
    by_cases hlt : k < P.length
    · obtain ⟨a1, c1', e1, _, hc1, hd1⟩ := (H1.out.below hb).two k hlt
      obtain ⟨a2, c2', e2, _, hc2, hd2⟩ := (H2.out.below hb).two k hlt
      clear hb hne
      simp only [Value.slice.injEq, true_and] at e1 e2
      obtain ⟨rfl, rfl⟩ := e1
      obtain ⟨rfl, rfl⟩ := e2
      generalize P[k] = t at hc1 hc2 hd1 hd2
      go_wp2
      go_region_with (go_at_call 57; refine (eq_pending t _).mono ?_; rintro e w1 ⟨rfl, hb1⟩)
      all_goals
        have HB1 := Lib.hid (below_call HB.out.drew HB.out.size hb1)
        clear hb1
        go_wp2
        go_roundw
        case rel => exact ⟨k + 1, by omega, by go_num, HB1.out⟩
        case measure => simp [intOf]; omega
    · have hks : k = P.length := by omega
      subst hks
      clear hb hne
      go_wp2
      go_ret
      exact ⟨rfl, HB.out⟩

set_option maxRecDepth 100000 in
theorem eq_disk (v1 v2 : Value) (d : Dk) (w : World) (h1 : DkAt w w.heap.size v1 d) (h2 : DkAt w w.heap.size v2 d) (hS : d.S.length ≤ 140737488351232) (hP : d.P.length ≤ 140737488351232) :
    Calls Tryd.prog 10 #[v1, v2] w (Yes w) := by
  obtain ⟨s1, p1, rfl, a1, b1⟩ := h1
  obtain ⟨s2, p2, rfl, a2, b2⟩ := h2
  have H1 := Lib.hid (fun W (hb : Below w.heap.size w W) => eq_strings s1 s2 d.S W ((a1.below hb).more hb.size) ((a2.below hb).more hb.size) hS)
  have H2 := Lib.hid (fun W (hb : Below w.heap.size w W) => eq_pendings p1 p2 d.P W ((b1.below hb).more hb.size) ((b2.below hb).more hb.size) hP)
  clear a1 a2 b1 b2 hS hP
  go_enter Tryd.func10, Tryd.ntmps10
  go_wp2_with fail
  refine (H1.out _ ?_).mono ?_
  · exact ((Below.refl _ _).alloc (Nat.le_refl _) _).alloc (by simp) _
  rintro e w1 ⟨rfl, hb1⟩
  obtain ⟨hc, hf⟩ := bcell hb1
  have HB := Lib.hid (below_call (((Below.refl w.heap.size w).alloc (Nat.le_refl _) _).alloc (by simp) _) (by simp only [World.size_alloc]; omega) hb1)
  clear hb1
  go_wp2_with fail
  refine (H2.out _ HB.out).mono ?_
  rintro e w2 ⟨rfl, hb2⟩
  have HB2 := Lib.hid (below_call HB.out HB.out.size hb2)
  clear hb2
  go_wp2
  go_ret
  exact ⟨rfl, HB2.out⟩

end Go.Proofs.YtognfiiplclpaaaDoor
