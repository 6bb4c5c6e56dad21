/-
  Contract of the program's headOf.
-/
import Derived.Test.YthchlfllcnlmjaaGreatDoorNums
import Derived.Test.YthchlfllcnlmjaaGreatDoorSeen
import Derived.Test.YthchlfllcnlmjaaGreatDoorSent
namespace Go.Proofs.YthchlfllcnlmjaaGreatDoor
open Go.ChangeShapes Go.WideShapes Go.ChangeAt Go.RowKit

open Classical in
/-- The three numbers of a head's text, if they are ones. -/
noncomputable def headP (t : ByteArray) : Option (Int × Int × Int) :=
  match threeOf t with
  | some (g, s, n, e) => if e = t.size ∧ 0 ≤ g ∧ 0 ≤ s ∧ s ≤ 1 ∧ 0 ≤ n then some (g, s, n) else none
  | none => none
theorem headP_none {t : ByteArray} (h : threeOf t = none) : headP t = none := by
  classical
  unfold headP; rw [h]
theorem headP_yes {t : ByteArray} {g s n e : Int} (h : threeOf t = some (g, s, n, e)) (hc : e = t.size ∧ 0 ≤ g ∧ 0 ≤ s ∧ s ≤ 1 ∧ 0 ≤ n) : headP t = some (g, s, n) := by
  classical
  unfold headP; rw [h]; simp only; rw [if_pos hc]
theorem headP_no {t : ByteArray} {g s n e : Int} (h : threeOf t = some (g, s, n, e)) (hc : ¬ (e = t.size ∧ 0 ≤ g ∧ 0 ≤ s ∧ s ≤ 1 ∧ 0 ≤ n)) : headP t = none := by
  classical
  unfold headP; rw [h]; simp only; rw [if_neg hc]
/-- What headOf hands back. -/
def headRet (a : Addr) : Option (Int × Int × Int) → Value
  | some (g, s, n) => .tuple #[.agg #[.int .i64 g, .int .i64 s, .int .i64 n], .nilIface]
  | none => .tuple #[.agg #[.int .i64 0, .int .i64 0, .int .i64 0], .iface 179 (.pointer (some a))]
theorem numat_yes {t : ByteArray} {a x y : Int} (h : getNum t a = (x, y, 0)) : numAtOut (getNum t a) = .tuple #[.int .i64 x, .int .i64 y, .nilIface] := by rw [h]; rfl
theorem numat_no {t : ByteArray} {a x y c : Int} (h : getNum t a = (x, y, c)) (hc : ¬ c = 0) : numAtOut (getNum t a) = .tuple #[.int .i64 0, .int .i64 0, .iface 106 (.agg #[.int .i64 c])] := by
  rw [h]; exact if_neg hc

set_option maxRecDepth 100000 in
set_option maxHeartbeats 4000000 in
theorem impl_headof (t : ByteArray) (a1 : Addr) (w : World) (ht : t.size ≤ 64) (hn : Sent w 2 a1) :
    Calls Tryz.prog 76 #[.string t] w fun e w' => e = .returned (headRet a1 (headP t)) ∧ Below w.heap.size w w' := by
  have HM := Lib.hid (show t.size ≤ maxLen by unfold maxLen; omega)
  have hl := hn.lt
  have hc0 := hn.cell
  have hc3 : ∀ o1 o2 o3, (((w.alloc o1).alloc o2).alloc o3).cell? ⟨2, 0, none⟩ = some (.iface 179 (.pointer (some a1))) := fun o1 o2 o3 => by
    rw [World.cell?_alloc_lt _ _ ⟨_, 0, none⟩ (by simp only [World.size_alloc]; omega), World.cell?_alloc_lt _ _ ⟨_, 0, none⟩ (by simp only [World.size_alloc]; omega), World.cell?_alloc_lt _ _ ⟨_, 0, none⟩ hl]; exact hc0
  clear hn
  obtain ⟨⟨g1, g2, g3⟩, hg⟩ : ∃ x, getNum t 0 = x := ⟨_, rfl⟩
  obtain ⟨⟨s1, s2, s3⟩, hs⟩ : ∃ x, getNum t g2 = x := ⟨_, rfl⟩
  obtain ⟨⟨n1, n2, n3⟩, hn⟩ : ∃ x, getNum t s2 = x := ⟨_, rfl⟩
  have h3 := three_of_get hg hs hn
  by_cases hg3 : g3 = 0
  · subst hg3
    have HN1 := Lib.hid (fun W => impl_numat t 0 W HM.out)
    rw [numat_yes hg] at HN1
    by_cases hs3 : s3 = 0
    · subst hs3
      have HN2 := Lib.hid (fun W => impl_numat t g2 W HM.out)
      rw [numat_yes hs] at HN2
      by_cases hn3 : n3 = 0
      · subst hn3
        have HN3 := Lib.hid (fun W => impl_numat t s2 W HM.out)
        rw [numat_yes hn] at HN3
        have h3' := h3.trans (if_pos ⟨rfl, rfl, rfl⟩)
        obtain ⟨he1, he2, -⟩ := three_canon h3'
        have HY := Lib.hid (headP_yes h3')
        have HNO := Lib.hid (headP_no h3')
        clear hg hs hn h3 h3'
        by_cases c1 : n2 = t.size
        · have d1 : ¬ n2 < (t.size : Int) := by omega
          by_cases c2 : 0 ≤ g1
          · have d2 : ¬ g1 < 0 := by omega
            by_cases c3 : 0 ≤ s1
            · have d3 : ¬ s1 < 0 := by omega
              by_cases c4 : s1 ≤ 1
              · have d4 : ¬ 1 < s1 := by omega
                by_cases c5 : 0 ≤ n1
                · have d5 : ¬ n1 < 0 := by omega
                  have HE := Lib.hid (HY.out ⟨c1, c2, c3, c4, c5⟩)
                  clear c1 c2 c3 c4 c5 he1 he2
                  go_enter Tryz.func76, Tryz.ntmps76
                  go_wp2
                  refine wp_loop_rounds 4 ?_
                  rw [rounds_succ]
                  go_wp2_with fail
                  refine (HN1.out _).mono ?_
                  rintro e w1 ⟨rfl, rfl⟩
                  go_wp2
                  rw [rounds_succ]
                  go_wp2_with fail
                  refine (HN2.out _).mono ?_
                  rintro e w2 ⟨rfl, rfl⟩
                  go_wp2
                  rw [rounds_succ]
                  go_wp2_with fail
                  refine (HN3.out _).mono ?_
                  rintro e w3 ⟨rfl, rfl⟩
                  go_wp2
                  rw [rounds_succ]
                  go_wp2
                  refine bodyPost_ret (v := .tuple #[.agg #[.int .i64 g1, .int .i64 s1, .int .i64 n1], .nilIface]) (by simp [results, Tryz.results76, go_sem]) rfl ⟨by rw [HE.out]; rfl, ?_⟩
                  repeat (first | refine Below.setCell ?_ (by simp only; omega) _ | refine Below.drew ?_ | refine Below.alloc ?_ (by first | exact Nat.le_refl _ | (simp only [World.size_alloc]; omega)) _)
                  exact Below.refl _ _
                · have d5 : n1 < 0 := by omega
                  have HE := Lib.hid (HNO.out (fun h => c5 h.2.2.2.2))
                  clear c1 c2 c3 c4 c5 he1 he2
                  go_enter Tryz.func76, Tryz.ntmps76
                  go_wp2
                  refine wp_loop_rounds 4 ?_
                  rw [rounds_succ]
                  go_wp2_with fail
                  refine (HN1.out _).mono ?_
                  rintro e w1 ⟨rfl, rfl⟩
                  go_wp2
                  rw [rounds_succ]
                  go_wp2_with fail
                  refine (HN2.out _).mono ?_
                  rintro e w2 ⟨rfl, rfl⟩
                  go_wp2
                  rw [rounds_succ]
                  go_wp2_with fail
                  refine (HN3.out _).mono ?_
                  rintro e w3 ⟨rfl, rfl⟩
                  go_wp2
                  rw [rounds_succ]
                  go_wp2
                  go_region
                  all_goals
                    go_wp2
                    refine bodyPost_ret (v := .tuple #[.agg #[.int .i64 0, .int .i64 0, .int .i64 0], .iface 179 (.pointer (some a1))]) (by simp [results, Tryz.results76, go_sem]) rfl ⟨by rw [HE.out]; rfl, ?_⟩
                    repeat (first | refine Below.setCell ?_ (by simp only; omega) _ | refine Below.drew ?_ | refine Below.alloc ?_ (by first | exact Nat.le_refl _ | (simp only [World.size_alloc]; omega)) _)
                    exact Below.refl _ _
              · have d4 : 1 < s1 := by omega
                have HE := Lib.hid (HNO.out (fun h => c4 h.2.2.2.1))
                clear c1 c2 c3 c4 he1 he2
                go_enter Tryz.func76, Tryz.ntmps76
                go_wp2
                refine wp_loop_rounds 4 ?_
                rw [rounds_succ]
                go_wp2_with fail
                refine (HN1.out _).mono ?_
                rintro e w1 ⟨rfl, rfl⟩
                go_wp2
                rw [rounds_succ]
                go_wp2_with fail
                refine (HN2.out _).mono ?_
                rintro e w2 ⟨rfl, rfl⟩
                go_wp2
                rw [rounds_succ]
                go_wp2_with fail
                refine (HN3.out _).mono ?_
                rintro e w3 ⟨rfl, rfl⟩
                go_wp2
                rw [rounds_succ]
                go_wp2
                go_region
                all_goals
                  go_wp2
                  refine bodyPost_ret (v := .tuple #[.agg #[.int .i64 0, .int .i64 0, .int .i64 0], .iface 179 (.pointer (some a1))]) (by simp [results, Tryz.results76, go_sem]) rfl ⟨by rw [HE.out]; rfl, ?_⟩
                  repeat (first | refine Below.setCell ?_ (by simp only; omega) _ | refine Below.drew ?_ | refine Below.alloc ?_ (by first | exact Nat.le_refl _ | (simp only [World.size_alloc]; omega)) _)
                  exact Below.refl _ _
            · have d3 : s1 < 0 := by omega
              have HE := Lib.hid (HNO.out (fun h => c3 h.2.2.1))
              clear c1 c2 c3 he1 he2
              go_enter Tryz.func76, Tryz.ntmps76
              go_wp2
              refine wp_loop_rounds 4 ?_
              rw [rounds_succ]
              go_wp2_with fail
              refine (HN1.out _).mono ?_
              rintro e w1 ⟨rfl, rfl⟩
              go_wp2
              rw [rounds_succ]
              go_wp2_with fail
              refine (HN2.out _).mono ?_
              rintro e w2 ⟨rfl, rfl⟩
              go_wp2
              rw [rounds_succ]
              go_wp2_with fail
              refine (HN3.out _).mono ?_
              rintro e w3 ⟨rfl, rfl⟩
              go_wp2
              rw [rounds_succ]
              go_wp2
              go_region
              all_goals
                go_wp2
                refine bodyPost_ret (v := .tuple #[.agg #[.int .i64 0, .int .i64 0, .int .i64 0], .iface 179 (.pointer (some a1))]) (by simp [results, Tryz.results76, go_sem]) rfl ⟨by rw [HE.out]; rfl, ?_⟩
                repeat (first | refine Below.setCell ?_ (by simp only; omega) _ | refine Below.drew ?_ | refine Below.alloc ?_ (by first | exact Nat.le_refl _ | (simp only [World.size_alloc]; omega)) _)
                exact Below.refl _ _
          · have d2 : g1 < 0 := by omega
            have HE := Lib.hid (HNO.out (fun h => c2 h.2.1))
            clear c1 c2 he1 he2
            go_enter Tryz.func76, Tryz.ntmps76
            go_wp2
            refine wp_loop_rounds 4 ?_
            rw [rounds_succ]
            go_wp2_with fail
            refine (HN1.out _).mono ?_
            rintro e w1 ⟨rfl, rfl⟩
            go_wp2
            rw [rounds_succ]
            go_wp2_with fail
            refine (HN2.out _).mono ?_
            rintro e w2 ⟨rfl, rfl⟩
            go_wp2
            rw [rounds_succ]
            go_wp2_with fail
            refine (HN3.out _).mono ?_
            rintro e w3 ⟨rfl, rfl⟩
            go_wp2
            rw [rounds_succ]
            go_wp2
            go_region
            all_goals
              go_wp2
              refine bodyPost_ret (v := .tuple #[.agg #[.int .i64 0, .int .i64 0, .int .i64 0], .iface 179 (.pointer (some a1))]) (by simp [results, Tryz.results76, go_sem]) rfl ⟨by rw [HE.out]; rfl, ?_⟩
              repeat (first | refine Below.setCell ?_ (by simp only; omega) _ | refine Below.drew ?_ | refine Below.alloc ?_ (by first | exact Nat.le_refl _ | (simp only [World.size_alloc]; omega)) _)
              exact Below.refl _ _
        · have d1 : n2 < (t.size : Int) := by omega
          have HE := Lib.hid (HNO.out (fun h => c1 h.1))
          clear c1 he1 he2
          go_enter Tryz.func76, Tryz.ntmps76
          go_wp2
          refine wp_loop_rounds 4 ?_
          rw [rounds_succ]
          go_wp2_with fail
          refine (HN1.out _).mono ?_
          rintro e w1 ⟨rfl, rfl⟩
          go_wp2
          rw [rounds_succ]
          go_wp2_with fail
          refine (HN2.out _).mono ?_
          rintro e w2 ⟨rfl, rfl⟩
          go_wp2
          rw [rounds_succ]
          go_wp2_with fail
          refine (HN3.out _).mono ?_
          rintro e w3 ⟨rfl, rfl⟩
          go_wp2
          rw [rounds_succ]
          go_wp2
          go_region
          all_goals
            go_wp2
            refine bodyPost_ret (v := .tuple #[.agg #[.int .i64 0, .int .i64 0, .int .i64 0], .iface 179 (.pointer (some a1))]) (by simp [results, Tryz.results76, go_sem]) rfl ⟨by rw [HE.out]; rfl, ?_⟩
            repeat (first | refine Below.setCell ?_ (by simp only; omega) _ | refine Below.drew ?_ | refine Below.alloc ?_ (by first | exact Nat.le_refl _ | (simp only [World.size_alloc]; omega)) _)
            exact Below.refl _ _
      · have HE := Lib.hid (headP_none (h3.trans (if_neg fun h => hn3 h.2.2)))
        have HN3 := Lib.hid (fun W => impl_numat t s2 W HM.out)
        rw [numat_no hn hn3] at HN3
        clear hg hs hn h3 hn3
        go_enter Tryz.func76, Tryz.ntmps76
        go_wp2
        refine wp_loop_rounds 4 ?_
        rw [rounds_succ]
        go_wp2_with fail
        refine (HN1.out _).mono ?_
        rintro e w1 ⟨rfl, rfl⟩
        go_wp2
        rw [rounds_succ]
        go_wp2_with fail
        refine (HN2.out _).mono ?_
        rintro e w2 ⟨rfl, rfl⟩
        go_wp2
        rw [rounds_succ]
        go_wp2_with fail
        refine (HN3.out _).mono ?_
        rintro e w3 ⟨rfl, rfl⟩
        go_wp2
        go_region
        all_goals
          go_wp2
          refine bodyPost_ret (v := .tuple #[.agg #[.int .i64 0, .int .i64 0, .int .i64 0], .iface 179 (.pointer (some a1))]) (by simp [results, Tryz.results76, go_sem]) rfl ⟨by rw [HE.out]; rfl, ?_⟩
          repeat (first | refine Below.setCell ?_ (by simp only; omega) _ | refine Below.drew ?_ | refine Below.alloc ?_ (by first | exact Nat.le_refl _ | (simp only [World.size_alloc]; omega)) _)
          exact Below.refl _ _
    · have HE := Lib.hid (headP_none (h3.trans (if_neg fun h => hs3 h.2.1)))
      have HN2 := Lib.hid (fun W => impl_numat t g2 W HM.out)
      rw [numat_no hs hs3] at HN2
      clear hg hs hn h3 hs3
      go_enter Tryz.func76, Tryz.ntmps76
      go_wp2
      refine wp_loop_rounds 4 ?_
      rw [rounds_succ]
      go_wp2_with fail
      refine (HN1.out _).mono ?_
      rintro e w1 ⟨rfl, rfl⟩
      go_wp2
      rw [rounds_succ]
      go_wp2_with fail
      refine (HN2.out _).mono ?_
      rintro e w2 ⟨rfl, rfl⟩
      go_wp2
      go_region
      all_goals
        go_wp2
        refine bodyPost_ret (v := .tuple #[.agg #[.int .i64 0, .int .i64 0, .int .i64 0], .iface 179 (.pointer (some a1))]) (by simp [results, Tryz.results76, go_sem]) rfl ⟨by rw [HE.out]; rfl, ?_⟩
        repeat (first | refine Below.setCell ?_ (by simp only; omega) _ | refine Below.drew ?_ | refine Below.alloc ?_ (by first | exact Nat.le_refl _ | (simp only [World.size_alloc]; omega)) _)
        exact Below.refl _ _
  · have HE := Lib.hid (headP_none (h3.trans (if_neg fun h => hg3 h.1)))
    have HN1 := Lib.hid (fun W => impl_numat t 0 W HM.out)
    rw [numat_no hg hg3] at HN1
    clear hg hs hn h3 hg3
    go_enter Tryz.func76, Tryz.ntmps76
    go_wp2
    refine wp_loop_rounds 4 ?_
    rw [rounds_succ]
    go_wp2_with fail
    refine (HN1.out _).mono ?_
    rintro e w1 ⟨rfl, rfl⟩
    go_wp2
    go_region
    all_goals
      go_wp2
      refine bodyPost_ret (v := .tuple #[.agg #[.int .i64 0, .int .i64 0, .int .i64 0], .iface 179 (.pointer (some a1))]) (by simp [results, Tryz.results76, go_sem]) rfl ⟨by rw [HE.out]; rfl, ?_⟩
      repeat (first | refine Below.setCell ?_ (by simp only; omega) _ | refine Below.drew ?_ | refine Below.alloc ?_ (by first | exact Nat.le_refl _ | (simp only [World.size_alloc]; omega)) _)
      exact Below.refl _ _

end Go.Proofs.YthchlfllcnlmjaaGreatDoor
