/-
  The contract of the program's GetNum.
-/
import Derived.Test.YtodhohkehbakoaaDoorGetNumI
import Derived.Test.YtodhohkehbakoaaDoorMathD
namespace Go.Proofs.YtodhohkehbakoaaDoor
open Go.ChangeShapes Go.WideShapes Go.ChangeAt Go.RowKit

/-- What numAt hands back. -/
def numAtOut (r : Int × Int × Int) : Value := if r.2.2 = 0 then .tuple #[.int .i64 r.1, .int .i64 r.2.1, .nilIface] else .tuple #[.int .i64 0, .int .i64 0, .iface 46 (.agg #[.int .i64 r.2.2])]

/-- groupsAt, from whatever place on. -/
theorem impl_groups_any (s : ByteArray) (a : Int) (w : World) (hm : s.size ≤ 8000) (ha : 0 ≤ a) :
    Calls Tryd.prog 24 #[.string s, .int .i64 a] w fun e w' => e = .returned (grpOut (grpAt s 0 a.toNat 0)) ∧ w = w' := by
  by_cases h : a < s.size
  · obtain ⟨n, rfl⟩ := Int.eq_ofNat_of_zero_le ha
    rw [Int.toNat_natCast]
    exact impl_groups s n w hm (by omega)
  · rw [grpAt_short (s := s) (k := 0) (p := a.toNat) (u := 0) (by omega) (by omega)]
    exact impl_groups_far s a w (by omega)

set_option maxRecDepth 100000 in
theorem impl_numat (s : ByteArray) (a : Int) (w : World) (hm : s.size ≤ maxLen) :
    Calls Tryd.prog 16 #[.string s, .int .i64 a] w fun e w' => e = .returned (numAtOut (getNum s a)) ∧ w = w' := by
  unfold maxLen at hm
  by_cases h8 : 8000 < s.size
  · have H : Hid (numAtOut (getNum s a) = .tuple #[.int .i64 0, .int .i64 0, .iface 46 (.agg #[.int .i64 2])]) := Lib.hid (by rw [getNum_size h8]; rfl)
    have h8' : 8000 < (s.size : Int) := by omega
    go_enter Tryd.func16, Tryd.ntmps16
    go_wp2
    go_ret3
    exact ⟨by rw [H.out]; rfl, rfl⟩
  · have h8' : ¬ 8000 < (s.size : Int) := by omega
    by_cases ha : a < 0
    · have H : Hid (numAtOut (getNum s a) = .tuple #[.int .i64 0, .int .i64 0, .iface 46 (.agg #[.int .i64 1])]) := Lib.hid (by rw [getNum_form (by omega) ha]; rfl)
      go_enter Tryd.func16, Tryd.ntmps16
      go_wp2
      go_ret3
      exact ⟨by rw [H.out]; rfl, rfl⟩
    · have HGr := Lib.hid (fun W => impl_groups_any s a W (by omega) (by omega))
      rcases getNum_shape s a with ⟨u, p, hu, hp, hg, _, _, _, hgr⟩ | ⟨c, hc1, hc2, hg, hgr⟩
      · rw [hgr, grpOut_ok] at HGr
        have H : Hid (numAtOut (getNum s a) = .tuple #[.int .i64 (unf u), .int .i64 (p : Int), .nilIface]) := Lib.hid (by rw [hg]; rfl)
        clear hgr hg
        go_enter Tryd.func16, Tryd.ntmps16
        go_wp2_with fail
        refine (HGr.out _).mono ?_
        rintro e w' ⟨rfl, rfl⟩
        go_wp2_with fail
        refine (impl_unfolded u _ hu).mono ?_
        rintro e w' ⟨rfl, rfl⟩
        go_wp2
        go_ret3
        exact ⟨by rw [H.out]; rfl, rfl⟩
      · rw [hgr (by omega) (by omega), grpOut_bad c (by omega)] at HGr
        have H : Hid (numAtOut (getNum s a) = .tuple #[.int .i64 0, .int .i64 0, .iface 46 (.agg #[.int .i64 (c : Int)])]) := Lib.hid (by rw [hg]; exact if_neg (by simp; omega))
        clear hgr hg
        go_enter Tryd.func16, Tryd.ntmps16
        go_wp2_with fail
        refine (HGr.out _).mono ?_
        rintro e w' ⟨rfl, rfl⟩
        go_wp2
        go_ret3
        exact ⟨by rw [H.out]; rfl, rfl⟩

/-- The listed variable's cell: the type 'error'. -/
def ErrVar (w : World) : Prop := w.cell? ⟨0, 0, none⟩ = some (.iface 74 (.agg #[.pointer (some ⟨1, 42, none⟩)]))

set_option maxRecDepth 100000 in
theorem impl_getnum (s : ByteArray) (a : Int) (w : World) (hm : s.size ≤ maxLen) (hv : ErrVar w) :
    Calls Tryd.prog 7 #[.string s, .int .i64 a] w fun e w' => e = .returned (numOut (getNum s a)) ∧ Below w.heap.size w w' := by
  have hv0 : 0 < w.heap.size := by
    rcases Nat.eq_zero_or_pos w.heap.size with h0 | h
    · simp [ErrVar, World.cell?, h0] at hv
    · exact h
  have HN := Lib.hid (fun W => impl_numat s a W hm)
  rcases getNum_shape s a with ⟨u, p, hu, hp, hg, _, _, _, hgr⟩ | ⟨c, hc1, hc2, hg, hgr⟩
  · have H1 : numAtOut (getNum s a) = .tuple #[.int .i64 (unf u), .int .i64 (p : Int), .nilIface] := by rw [hg]; rfl
    rw [H1] at HN
    have H : Hid (numOut (getNum s a) = .agg #[.int .i64 (unf u), .int .i64 (p : Int), .int .i64 0]) := Lib.hid (by rw [hg]; rfl)
    clear hgr hg H1
    go_enter Tryd.func7, Tryd.ntmps7
    go_wp2_with fail
    refine (HN.out _).mono ?_
    rintro e w' ⟨rfl, rfl⟩
    go_wp2_with fail
    refine (as_nil _ _).mono ?_
    rintro e w' ⟨rfl, rfl⟩
    go_wp2
    exact bodyPost_ret (v := .agg #[.int .i64 (unf u), .int .i64 (p : Int), .int .i64 0]) (by simp [results, Tryd.results7, go_sem]) rfl ⟨by rw [H.out], ((Below.refl _ _).alloc (Nat.le_refl _) _).alloc (by simp) _⟩
  · have H1 : numAtOut (getNum s a) = .tuple #[.int .i64 0, .int .i64 0, .iface 46 (.agg #[.int .i64 (c : Int)])] := by rw [hg]; exact if_neg (by simp; omega)
    rw [H1] at HN
    have H : Hid (numOut (getNum s a) = .agg #[.int .i64 0, .int .i64 0, .int .i64 (c : Int)]) := Lib.hid (by rw [hg]; rfl)
    clear hgr hg H1
    go_enter Tryd.func7, Tryd.ntmps7
    go_wp2_with fail
    refine (HN.out _).mono ?_
    rintro e w' ⟨rfl, rfl⟩
    go_wp2_with fail
    refine (as_hit c ⟨w.heap.size + 1, 0, none⟩ (.int .i64 0) _ ?_ ?_ ?_).mono ?_
    · rw [World.cell?_alloc_lt _ _ ⟨0, 0, none⟩ (by simp), World.cell?_alloc_lt _ _ ⟨0, 0, none⟩ hv0]; exact hv
    · rw [World.cell?_alloc_at _ _ _ _ (by simp)]; rfl
    · exact World.frozen?_alloc_at _ _ _ _ (by simp)
    rintro e w' ⟨rfl, rfl⟩
    go_wp2
    refine bodyPost_ret (v := .agg #[.int .i64 0, .int .i64 0, .int .i64 (c : Int)]) (by simp [results, Tryd.results7, go_sem]) rfl ⟨by rw [H.out], ?_⟩
    repeat (refine Below.alloc ?_ (by first | exact Nat.le_refl _ | (simp only [World.size_alloc]; omega)) _)
    exact Below.refl _ _

end Go.Proofs.YtodhohkehbakoaaDoor
