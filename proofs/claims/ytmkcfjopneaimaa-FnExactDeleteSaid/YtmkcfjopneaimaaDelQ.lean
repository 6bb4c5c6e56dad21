/-
  What a law of an answer wants: a ledger across marks, what Delete answers.
-/
import Derived.Test.YtmkcfjopneaimaaDelS
namespace Go.Proofs.Ytmkcfjopneaimaa
set_option linter.unusedSimpArgs false
set_option linter.unusedVariables false
open Go.ChangeShapes Go.WideShapes Go.ChangeAt Go.RowKit

theorem Lg.within {w W W' : World} {L : List (Nat × Obj)} {F F' : List (World → Prop)} (h : Lg w W L F) {lo hi : Nat} (k : Within lo hi W W') (h0 : w.heap.size ≤ lo) (hL : ∀ p ∈ L, p.1 < lo ∨ hi ≤ p.1) (hF : ∀ p ∈ F', p W') (hm : ∀ p ∈ F', Mono p) : Lg w W' L F' :=
  ⟨h.bel.trans (k.below h0 h.bel.size), fun p hp => keep_within k (h.blk p hp) (hL p hp), hF, hm⟩
theorem setG_names {l : List Im} {n : Nat} {x : Im} (h : x ∈ setG l n) : ∃ y ∈ l, y.i = x.i := by
  induction l generalizing n with
  | nil => simp [setG] at h
  | cons y l ih =>
    cases n with
    | zero =>
      simp only [setG, List.mem_cons] at h
      rcases h with rfl | h
      · exact ⟨y, List.mem_cons_self, rfl⟩
      · exact ⟨x, List.mem_cons_of_mem _ h, rfl⟩
    | succ n =>
      simp only [setG, List.mem_cons] at h
      rcases h with rfl | h
      · exact ⟨_, List.mem_cons_self, rfl⟩
      · obtain ⟨z, hz, e⟩ := ih h
        exact ⟨z, List.mem_cons_of_mem _ hz, e⟩
theorem goneL_names : ∀ (ps : List Int) {l : List Im} {x : Im}, x ∈ goneL l ps → ∃ y ∈ l, y.i = x.i
  | [], _, x, h => ⟨x, h, rfl⟩
  | p :: ps, l, x, h => by
    obtain ⟨y, hy, e⟩ := goneL_names ps (l := setG l p.toNat) h
    obtain ⟨z, hz, e2⟩ := setG_names hy
    exact ⟨z, hz, e2.trans e⟩
theorem delete_small (d : Dc) (p m : Int) : (deleteO d p m).dc.X.length ≤ d.X.length ∧ (deleteO d p m).dc.P.length ≤ d.P.length ∧ (deleteO d p m).dc.H.length ≤ d.H.length ∧ ∀ x ∈ (deleteO d p m).dc.X, ∀ y ∈ (deleteO d p m).dc.P, x.i ≠ y.i := by
  by_cases h : docB d = true ∧ 1 ≤ m ∧ m ≤ 60
  · by_cases h2 : 0 ≤ p ∧ p + m ≤ ((liveI d.X).length : Int)
    · rw [delete_good h h2]
      refine ⟨Nat.le_of_eq (goneJ_len _ _ _), Nat.le_refl _, Nat.le_refl _, ?_⟩
      intro x hx y hy
      obtain ⟨z, hz, e⟩ := goneL_names _ hx
      rw [← e]
      exact wait_unlike ((docB_iff d).1 h.1) z hz y hy
    · rw [delete_range h h2]; simp [illOc]
  · rw [delete_form h]; simp [illOc]
theorem OwnsDcA.parts {w : World} {d : Dc} {e : Ending} {w' : World} (h : OwnsDcA w d e w') : ∃ A1 c1 A2 c2 A3 c3, e = .returned (.agg #[.slice A1 d.X.length c1, .slice A2 d.P.length c2, .slice A3 d.H.length c3]) ∧
    DcOw w' w.heap.size (.agg #[.slice A1 d.X.length c1, .slice A2 d.P.length c2, .slice A3 d.H.length c3]) d ∧ ApartC (.agg #[.slice A1 d.X.length c1, .slice A2 d.P.length c2, .slice A3 d.H.length c3]) d ∧ Below w.heap.size w w' := by
  obtain ⟨v, rfl, ho, ha, hb⟩ := h
  obtain ⟨vx, vp, vh, rfl, h1, h2, h3⟩ := ho
  obtain ⟨A1, c1, rfl⟩ := h1.form
  obtain ⟨A2, c2, rfl⟩ := h2.form
  obtain ⟨A3, c3, rfl⟩ := h3.form
  exact ⟨A1, c1, A2, c2, A3, c3, rfl, ⟨_, _, _, rfl, h1, h2, h3⟩, ha, hb⟩

end Go.Proofs.Ytmkcfjopneaimaa
