/-
  The contract of the program's GetText, of whatever text and place.
-/
import Derived.Test.YtodhohkehbakoaaDoorGetTextI
import Derived.Test.YtodhohkehbakoaaDoorMathD
namespace Go.Proofs.YtodhohkehbakoaaDoor
open Go.ChangeShapes Go.WideShapes Go.ChangeAt Go.RowKit

theorem impl_gettext (s : ByteArray) (a : Int) (hm : s.size ≤ maxLen) (w : World) (hv : ErrVar w) :
    Calls Tryd.prog 11 #[.string s, .int .i64 a] w fun e w' => e = .returned (textOut3 (getText s a)) ∧ Below w.heap.size w w' := by
  rcases getNum_shape s a with ⟨u, p, hu, hp, hg, h8, _, _, _⟩ | ⟨c, hc1, hc2, hg, _⟩
  · by_cases hn : unf u < 0 ∨ 8000 < unf u
    · rw [getText_syntax hg hn]
      exact impl_gettext_bad s a w 3 hv fun W => impl_textat_syntax s a W _ _ hm hg hn
    · by_cases hs : (s.size : Int) < p + unf u
      · rw [getText_short hg hn hs]
        exact impl_gettext_bad s a w 4 hv fun W => impl_textat_short s a W _ _ h8 hg hn (by omega) hs
      · obtain ⟨n, hnn⟩ := Int.eq_ofNat_of_zero_le (show 0 ≤ unf u by omega)
        rw [hnn] at hg hn hs
        rw [getText_ok hg (by omega) (by omega)]
        exact impl_gettext_ok s a w _ _ fun W => impl_textat_ok s a W n p h8 hg (by omega) (by omega)
  · rw [getText_code hg (by omega)]
    exact impl_gettext_bad s a w c hv fun W => impl_textat_code s a W c hm hg (by omega)

end Go.Proofs.YtodhohkehbakoaaDoor
