/-
  What a law of an answer wants: a ledger across marks.
-/
import Derived.Test.YtaggmcdfggmlhaaMarkC
import Derived.Test.YtaggmcdfggmlhaaFitD
namespace Go.Proofs.Ytaggmcdfggmlhaa
set_option linter.unusedSimpArgs false
set_option linter.unusedVariables false
open Go.ChangeShapes Go.WideShapes Go.ChangeAt Go.RowKit

theorem Lg.within {w W W' : World} {L : List (Nat × Obj)} {F F' : List (World → Prop)} (h : Lg w W L F) {lo hi : Nat} (k : Within lo hi W W') (h0 : w.heap.size ≤ lo) (hL : ∀ p ∈ L, p.1 < lo ∨ hi ≤ p.1) (hF : ∀ p ∈ F', p W') (hm : ∀ p ∈ F', Mono p) : Lg w W' L F' :=
  ⟨h.bel.trans (k.below h0 h.bel.size), fun p hp => keep_within k (h.blk p hp) (hL p hp), hF, hm⟩
theorem OwnsDcA.parts {w : World} {d : Dc} {e : Ending} {w' : World} (h : OwnsDcA w d e w') : ∃ A1 c1 A2 c2 A3 c3, e = .returned (.agg #[.slice A1 d.X.length c1, .slice A2 d.P.length c2, .slice A3 d.H.length c3]) ∧
    DcOw w' w.heap.size (.agg #[.slice A1 d.X.length c1, .slice A2 d.P.length c2, .slice A3 d.H.length c3]) d ∧ ApartC (.agg #[.slice A1 d.X.length c1, .slice A2 d.P.length c2, .slice A3 d.H.length c3]) d ∧ Below w.heap.size w w' := by
  obtain ⟨v, rfl, ho, ha, hb⟩ := h
  obtain ⟨vx, vp, vh, rfl, h1, h2, h3⟩ := ho
  obtain ⟨A1, c1, rfl⟩ := h1.form
  obtain ⟨A2, c2, rfl⟩ := h2.form
  obtain ⟨A3, c3, rfl⟩ := h3.form
  exact ⟨A1, c1, A2, c2, A3, c3, rfl, ⟨_, _, _, rfl, h1, h2, h3⟩, ha, hb⟩

end Go.Proofs.Ytaggmcdfggmlhaa
