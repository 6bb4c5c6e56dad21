/-
  DiskRight and its kin.
-/
import Derived.Test.YthchlfllcnlmjaaGreatDoorProg
import Derived.Test.YthchlfllcnlmjaaGreatDoorBase1
import Derived.ProofKit
import Derived.WalkSmall
import Derived.BigQuiet
import Derived.IntWalk
import Derived.Deep.QuietTactic
import Derived.RegionTactic
/-! Contracts of both DiskRight, and of what they call. -/
namespace Go.Proofs.YthchlfllcnlmjaaGreatDoor
open Go.ChangeShapes Go.WideShapes Go.ChangeAt Go.RowKit

theorem spec_is_yes (n low high : Int) (w : World) (h1 : low ≤ n) (h2 : n ≤ high) :
    Calls Tryz.prog 86 #[.int .i64 n, .int .i64 low, .int .i64 high] w fun e w' => e = .returned (.bool true) ∧ w = w' := by
  go_enter Tryz.func86, Tryz.ntmps86
  go_wp2
  go_ret
  exact ⟨rfl, rfl⟩
theorem spec_is_no (n low high : Int) (w : World) (h : ¬ (low ≤ n ∧ n ≤ high)) :
    Calls Tryz.prog 86 #[.int .i64 n, .int .i64 low, .int .i64 high] w fun e w' => e = .returned (.bool false) ∧ w = w' := by
  by_cases h1 : low ≤ n
  · have h2 : ¬ n ≤ high := fun h2 => h ⟨h1, h2⟩
    clear h
    go_enter Tryz.func86, Tryz.ntmps86
    go_wp2
    go_ret
    exact ⟨rfl, rfl⟩
  · clear h
    go_enter Tryz.func86, Tryz.ntmps86
    go_wp2
    go_ret
    exact ⟨rfl, rfl⟩

theorem impl_fits_yes (t : ByteArray) (w : World) (h : t.size ≤ 64) :
    Calls Tryz.prog 81 #[.string t] w fun e w' => e = .returned (.bool true) ∧ w = w' := by
  have h' : (t.size : Int) ≤ 64 := by omega
  go_enter Tryz.func81, Tryz.ntmps81
  go_wp2
  go_ret
  exact ⟨rfl, rfl⟩
theorem impl_fits_no (t : ByteArray) (w : World) (h : ¬ t.size ≤ 64) :
    Calls Tryz.prog 81 #[.string t] w fun e w' => e = .returned (.bool false) ∧ w = w' := by
  have h' : ¬ (t.size : Int) ≤ 64 := by omega
  go_enter Tryz.func81, Tryz.ntmps81
  go_wp2
  go_ret
  exact ⟨rfl, rfl⟩
/-- Has it such a sector? -/
theorem impl_has_yes (A : Option Addr) (n c : Nat) (vp : Value) (a : Int) (w : World) (h1 : 0 ≤ a) (h2 : a < n) :
    Calls Tryz.prog 82 #[.agg #[.slice A n c, vp], .int .i64 a] w fun e w' => e = .returned (.bool true) ∧ Below w.heap.size w w' := by
  go_enter Tryz.func82, Tryz.ntmps82
  go_wp2
  go_ret
  exact ⟨rfl, (Below.refl _ _).alloc (Nat.le_refl _) _⟩
theorem impl_has_no (A : Option Addr) (n c : Nat) (vp : Value) (a : Int) (w : World) (h : ¬ (0 ≤ a ∧ a < n)) :
    Calls Tryz.prog 82 #[.agg #[.slice A n c, vp], .int .i64 a] w fun e w' => e = .returned (.bool false) ∧ Below w.heap.size w w' := by
  by_cases h1 : 0 ≤ a
  · have h2 : ¬ a < n := fun h2 => h ⟨h1, h2⟩
    clear h
    go_enter Tryz.func82, Tryz.ntmps82
    go_wp2
    go_ret
    exact ⟨rfl, (Below.refl _ _).alloc (Nat.le_refl _) _⟩
  · clear h
    go_enter Tryz.func82, Tryz.ntmps82
    go_wp2
    go_ret
    exact ⟨rfl, (Below.refl _ _).alloc (Nat.le_refl _) _⟩

/-- A disk is right, or not, and nothing that was there has turned. -/
def SaysRight (w : World) (d : Dk) (e : Ending) (w' : World) : Prop := e = .returned (.bool (rightB d)) ∧ Below w.heap.size w w'

set_option maxRecDepth 100000 in
set_option maxHeartbeats 1000000 in
theorem spec_right (v : Value) (d : Dk) (w : World) (hv : DkAt w w.heap.size v d) (hS : d.S.length ≤ 140737488351232) (hP : d.P.length ≤ 140737488351232) :
    Calls Tryz.prog 45 #[v] w (SaysRight w d) := by
  obtain ⟨vs, vp, rfl, hs, hp⟩ := hv
  obtain ⟨A1, c1, rfl⟩ := hs.form
  obtain ⟨A2, c2, rfl⟩ := hp.form
  have HS := Lib.hid hs; have HP := Lib.hid hp
  clear hs hp
  by_cases h1 : 1 ≤ d.S.length ∧ d.S.length ≤ 64
  · obtain ⟨h1a, h1b⟩ := h1
    by_cases h2 : d.P.length ≤ 200
    · go_enter Tryz.func45, Tryz.ntmps45
      go_wp2_with (go_at_call 86; refine (spec_is_yes _ _ _ _ (by omega) (by omega)).mono ?_; rintro e w' ⟨rfl, rfl⟩)
      go_loopw [3] (fun i wr => ∃ k : Nat, k ≤ d.S.length ∧ i = .int .i64 k ∧ Below (w.alloc (.cells #[.slice A1 d.S.length c1, .slice A2 d.P.length c2] 26)).heap.size (w.alloc (.cells #[.slice A1 d.S.length c1, .slice A2 d.P.length c2] 26)) wr ∧ ∀ j (hj : j < d.S.length), j < k → d.S[j].size ≤ 64) (fun i _ => d.S.length - (intOf i).toNat)
      case atStart => exact ⟨0, by omega, rfl, Below.refl _ _, fun j _ hj => by omega⟩
      case round =>
        obtain ⟨k, hk, rfl, hb, hj⟩ := hrel
        have HJ := Lib.hid hj; have HB := Lib.hid hb; clear hj
        have HG := Lib.hid (box_kept hb)
        obtain ⟨x0, x1⟩ := box2 HG.out
        have HB0 := Lib.hid (((Below.refl w.heap.size w).alloc (Nat.le_refl _) _).trans (hb.mono (by simp)))
        clear hb
        by_cases hlt : k < d.S.length
        · obtain ⟨ad, c', e', _, hc⟩ := (HS.out.below HB0.out).one k hlt
          simp only [Value.slice.injEq, true_and] at e'
          obtain ⟨rfl, rfl⟩ := e'
          have HM := Lib.hid (getElem_mem' d.S k hlt)
          obtain ⟨t, ht⟩ : ∃ t, t = d.S[k] := ⟨_, rfl⟩
          rw [← ht] at hc HM
          have HT := Lib.hid ht; clear ht
          by_cases hd : t.size ≤ 64
          · have hd' : ¬ 64 < (t.size : Int) := by omega
            go_wp2
            go_roundw
            case rel => exact ⟨k + 1, by omega, by go_num, HB.out, fun j hj hjk => by
              by_cases e : j = k
              · subst e; rw [← HT.out]; exact hd
              · exact HJ.out j hj (by omega)⟩
            case measure => simp [intOf]; omega
          · have hd' : 64 < (t.size : Int) := by omega
            go_wp2
            go_ret
            exact ⟨ret_bool (rightB_no fun hr => hd (hr.2.2.2.1 t HM.out)).symm, HB0.out⟩
        · have hks : k = d.S.length := by omega
          subst hks
          go_wp2
          go_loopw [4] (fun i wr => ∃ k : Nat, k ≤ d.P.length ∧ i = .int .i64 k ∧ Below (w.alloc (.cells #[.slice A1 d.S.length c1, .slice A2 d.P.length c2] 26)).heap.size (w.alloc (.cells #[.slice A1 d.S.length c1, .slice A2 d.P.length c2] 26)) wr ∧ ∀ j (hj : j < d.P.length), j < k → 0 ≤ d.P[j].1 ∧ d.P[j].1 < d.S.length ∧ d.P[j].2.size ≤ 64) (fun i _ => d.P.length - (intOf i).toNat)
          case atStart => exact ⟨0, by omega, rfl, HB.out, fun j _ hj => by omega⟩
          case round =>
            clear HB HG x0 x1 HB0
            obtain ⟨k, hk, rfl, hb, hj⟩ := hrel
            have HI := Lib.hid hj; have HB := Lib.hid hb; clear hj
            have HG := Lib.hid (box_kept hb)
            obtain ⟨x0, x1⟩ := box2 HG.out
            have HB0 := Lib.hid (((Below.refl w.heap.size w).alloc (Nat.le_refl _) _).trans (hb.mono (by simp)))
            clear hb
            by_cases hlt : k < d.P.length
            · obtain ⟨ad, c', e', _, hc1, hc2⟩ := (HP.out.below HB0.out).two k hlt
              simp only [Value.slice.injEq, true_and] at e'
              obtain ⟨rfl, rfl⟩ := e'
              have HM := Lib.hid (getElem_mem' d.P k hlt)
              obtain ⟨t, ht⟩ : ∃ t, t = d.P[k] := ⟨_, rfl⟩
              rw [← ht] at hc1 hc2 HM
              have HT := Lib.hid ht; clear ht
              have e1 : IntKind.i64.wrap ((d.S.length : Int) - 1) = (d.S.length : Int) - 1 := IntWalk.i64_in _ (by omega)
              by_cases ha : 0 ≤ t.1 ∧ t.1 ≤ (d.S.length : Int) - 1
              · by_cases hd : t.2.size ≤ 64
                · have hd' : ¬ 64 < (t.2.size : Int) := by omega
                  go_wp2
                  go_quiet ((go_at_call 86; exact Calls.quiet_of_same ((spec_is_yes _ _ _ _ (by omega) (by omega)).mono fun _ _ h => ⟨h.1, h.2.symm⟩)))
                  go_wp2
                  go_roundw
                  case rel => exact ⟨k + 1, by omega, by go_num, below_drewN' HB.out _, fun j hj hjk => by
                    by_cases e : j = k
                    · subst e; rw [← HT.out]; exact ⟨ha.1, by omega, hd⟩
                    · exact HI.out j hj (by omega)⟩
                  case measure => simp [intOf]; omega
                · have hd' : 64 < (t.2.size : Int) := by omega
                  have HN := Lib.hid (rightB_no (d := d) fun hr => hd (hr.2.2.2.2 t HM.out).2.2)
                  go_wp2
                  go_quiet ((go_at_call 86; exact Calls.quiet_of_same ((spec_is_yes _ _ _ _ (by omega) (by omega)).mono fun _ _ h => ⟨h.1, h.2.symm⟩)))
                  go_wp2
                  go_ret
                  exact ⟨ret_bool HN.out.symm, below_drewN' HB0.out _⟩
              · have HN := Lib.hid (rightB_no (d := d) fun hr => ha ⟨(hr.2.2.2.2 t HM.out).1, by have := (hr.2.2.2.2 t HM.out).2.1; omega⟩)
                go_wp2
                go_quiet ((go_at_call 86; exact Calls.quiet_of_same ((spec_is_no _ _ _ _ ha).mono fun _ _ h => ⟨h.1, h.2.symm⟩)))
                go_wp2
                go_ret
                exact ⟨ret_bool HN.out.symm, below_drewN' HB0.out _⟩
            · have hks : k = d.P.length := by omega
              subst hks
              go_wp2
              go_ret
              refine ⟨ret_bool (rightB_yes ⟨h1a, h1b, h2, fun s hs => ?_, fun p hp => ?_⟩).symm, HB0.out⟩
              · obtain ⟨j, hj, rfl⟩ := List.getElem_of_mem hs
                exact HJ.out j hj hj
              · obtain ⟨j, hj, rfl⟩ := List.getElem_of_mem hp
                exact HI.out j hj hj
    · have h2' : 200 < (d.P.length : Int) := by omega
      go_enter Tryz.func45, Tryz.ntmps45
      go_wp2_with (go_at_call 86; refine (spec_is_yes _ _ _ _ (by omega) (by omega)).mono ?_; rintro e w' ⟨rfl, rfl⟩)
      go_ret
      exact ⟨ret_bool (rightB_no fun hr => h2 hr.2.2.1).symm, (Below.refl _ _).alloc (Nat.le_refl _) _⟩
  · have HN := Lib.hid (rightB_no (d := d) fun hr => h1 ⟨hr.1, hr.2.1⟩)
    go_enter Tryz.func45, Tryz.ntmps45
    go_wp2_with (go_at_call 86; refine (spec_is_no _ _ _ _ (by omega)).mono ?_; rintro e w' ⟨rfl, rfl⟩)
    go_ret
    exact ⟨ret_bool HN.out.symm, (Below.refl _ _).alloc (Nat.le_refl _) _⟩

set_option maxRecDepth 100000 in
set_option maxHeartbeats 1000000 in
theorem impl_right (v : Value) (d : Dk) (w : World) (hv : DkAt w w.heap.size v d) (hS : d.S.length ≤ 140737488351232) (hP : d.P.length ≤ 140737488351232) :
    Calls Tryz.prog 41 #[v] w (SaysRight w d) := by
  obtain ⟨vs, vp, rfl, hs, hp⟩ := hv
  obtain ⟨A1, c1, rfl⟩ := hs.form
  obtain ⟨A2, c2, rfl⟩ := hp.form
  have HS := Lib.hid hs; have HP := Lib.hid hp
  clear hs hp
  by_cases h1 : 1 ≤ d.S.length ∧ d.S.length ≤ 64 ∧ d.P.length ≤ 200
  · obtain ⟨h1a, h1b, h2⟩ := h1
    have h1a' : ¬ (d.S.length : Int) < 1 := by omega
    have h1b' : ¬ 64 < (d.S.length : Int) := by omega
    have h2' : ¬ 200 < (d.P.length : Int) := by omega
    go_enter Tryz.func41, Tryz.ntmps41
    go_wp2
    go_loopw [26] (fun i wr => ∃ k : Nat, k ≤ d.S.length ∧ i = .int .i64 k ∧ Below (w.alloc (.cells #[.slice A1 d.S.length c1, .slice A2 d.P.length c2] 26)).heap.size (w.alloc (.cells #[.slice A1 d.S.length c1, .slice A2 d.P.length c2] 26)) wr ∧ ∀ j (hj : j < d.S.length), j < k → d.S[j].size ≤ 64) (fun i _ => d.S.length - (intOf i).toNat)
    case atStart => exact ⟨0, by omega, rfl, Below.refl _ _, fun j _ hj => by omega⟩
    case round =>
      obtain ⟨k, hk, rfl, hb, hj⟩ := hrel
      have HJ := Lib.hid hj; have HB := Lib.hid hb; clear hj
      have HG := Lib.hid (box_kept hb)
      obtain ⟨x0, x1⟩ := box2 HG.out
      have HB0 := Lib.hid (((Below.refl w.heap.size w).alloc (Nat.le_refl _) _).trans (hb.mono (by simp)))
      clear hb
      by_cases hlt : k < d.S.length
      · obtain ⟨ad, c', e', _, hc⟩ := (HS.out.below HB0.out).one k hlt
        simp only [Value.slice.injEq, true_and] at e'
        obtain ⟨rfl, rfl⟩ := e'
        have HM := Lib.hid (getElem_mem' d.S k hlt)
        obtain ⟨t, ht⟩ : ∃ t, t = d.S[k] := ⟨_, rfl⟩
        rw [← ht] at hc HM
        have HT := Lib.hid ht; clear ht
        by_cases hd : t.size ≤ 64
        · go_wp2_with (go_at_call 81; refine (impl_fits_yes _ _ hd).mono ?_; rintro e w' ⟨rfl, rfl⟩)
          go_roundw
          case rel => exact ⟨k + 1, by omega, by go_num, HB.out, fun j hj hjk => by
            by_cases e : j = k
            · subst e; rw [← HT.out]; exact hd
            · exact HJ.out j hj (by omega)⟩
          case measure => simp [intOf]; omega
        · have HN := Lib.hid (rightB_no (d := d) fun hr => hd (hr.2.2.2.1 t HM.out))
          go_wp2_with (go_at_call 81; refine (impl_fits_no _ _ hd).mono ?_; rintro e w' ⟨rfl, rfl⟩)
          go_ret
          exact ⟨ret_bool HN.out.symm, HB0.out⟩
      · have hks : k = d.S.length := by omega
        subst hks
        go_wp2
        go_loopw [37] (fun i wr => ∃ k : Nat, k ≤ d.P.length ∧ i = .int .i64 k ∧ Below (w.alloc (.cells #[.slice A1 d.S.length c1, .slice A2 d.P.length c2] 26)).heap.size (w.alloc (.cells #[.slice A1 d.S.length c1, .slice A2 d.P.length c2] 26)) wr ∧ ∀ j (hj : j < d.P.length), j < k → 0 ≤ d.P[j].1 ∧ d.P[j].1 < d.S.length ∧ d.P[j].2.size ≤ 64) (fun i _ => d.P.length - (intOf i).toNat)
        case atStart => exact ⟨0, by omega, rfl, HB.out, fun j _ hj => by omega⟩
        case round =>
          clear HB HG x0 x1 HB0
          obtain ⟨k, hk, rfl, hb, hj⟩ := hrel
          have HI := Lib.hid hj; have HB := Lib.hid hb; clear hj
          have HG := Lib.hid (box_kept hb)
          obtain ⟨x0, x1⟩ := box2 HG.out
          have HB0 := Lib.hid (((Below.refl w.heap.size w).alloc (Nat.le_refl _) _).trans (hb.mono (by simp)))
          clear hb
          have hbx : w.heap.size < wr.heap.size := block_lt HG.out
          by_cases hlt : k < d.P.length
          · obtain ⟨ad, c', e', had, hc1, hc2⟩ := (HP.out.below HB0.out).two k hlt
            have hads : ad.block < wr.heap.size := Nat.lt_trans had hbx
            simp only [Value.slice.injEq, true_and] at e'
            obtain ⟨rfl, rfl⟩ := e'
            have HM := Lib.hid (getElem_mem' d.P k hlt)
            obtain ⟨t, ht⟩ : ∃ t, t = d.P[k] := ⟨_, rfl⟩
            rw [← ht] at hc1 hc2 HM
            have HT := Lib.hid ht; clear ht
            by_cases ha : 0 ≤ t.1 ∧ t.1 < (d.S.length : Int)
            · go_wp2_with fail
              refine (impl_has_yes _ _ _ _ t.1 _ ha.1 ha.2).mono ?_
              rintro e w1 ⟨rfl, hb1⟩
              obtain ⟨hc, hf⟩ := bcell hb1
              have HB1 := Lib.hid (below_alloc_call HB.out HB.out.size hb1)
              have HB2 := Lib.hid (below_alloc_call HB0.out HB0.out.size hb1)
              clear hb1
              by_cases hd : t.2.size ≤ 64
              · go_wp2_with (go_at_call 81; refine (impl_fits_yes _ _ hd).mono ?_; rintro e w' ⟨rfl, rfl⟩)
                go_roundw
                case rel => exact ⟨k + 1, by omega, by go_num, HB1.out, fun j hj hjk => by
                  by_cases e : j = k
                  · subst e; rw [← HT.out]; exact ⟨ha.1, ha.2, hd⟩
                  · exact HI.out j hj (by omega)⟩
                case measure => simp [intOf]; omega
              · have HN := Lib.hid (rightB_no (d := d) fun hr => hd (hr.2.2.2.2 t HM.out).2.2)
                go_wp2_with (go_at_call 81; refine (impl_fits_no _ _ hd).mono ?_; rintro e w' ⟨rfl, rfl⟩)
                go_ret
                exact ⟨ret_bool HN.out.symm, HB2.out⟩
            · have HN := Lib.hid (rightB_no (d := d) fun hr => ha ⟨(hr.2.2.2.2 t HM.out).1, (hr.2.2.2.2 t HM.out).2.1⟩)
              go_wp2_with fail
              refine (impl_has_no _ _ _ _ t.1 _ ha).mono ?_
              rintro e w1 ⟨rfl, hb1⟩
              have HB2 := Lib.hid (below_alloc_call HB0.out HB0.out.size hb1)
              clear hb1
              go_wp2
              go_ret
              exact ⟨ret_bool HN.out.symm, HB2.out⟩
          · have hks : k = d.P.length := by omega
            subst hks
            go_wp2
            go_ret
            refine ⟨ret_bool (rightB_yes ⟨h1a, h1b, h2, fun s hs => ?_, fun p hp => ?_⟩).symm, HB0.out⟩
            · obtain ⟨j, hj, rfl⟩ := List.getElem_of_mem hs
              exact HJ.out j hj hj
            · obtain ⟨j, hj, rfl⟩ := List.getElem_of_mem hp
              exact HI.out j hj hj
  · have HN := Lib.hid (rightB_no (d := d) fun hr => h1 ⟨hr.1, hr.2.1, hr.2.2.1⟩)
    by_cases h2 : 1 ≤ d.S.length
    · have h2' : ¬ (d.S.length : Int) < 1 := by omega
      by_cases h3 : d.S.length ≤ 64
      · have h3' : ¬ 64 < (d.S.length : Int) := by omega
        have h4' : 200 < (d.P.length : Int) := by omega
        clear h1
        go_enter Tryz.func41, Tryz.ntmps41
        go_wp2
        go_ret
        exact ⟨ret_bool HN.out.symm, (Below.refl _ _).alloc (Nat.le_refl _) _⟩
      · have h3' : 64 < (d.S.length : Int) := by omega
        clear h1
        go_enter Tryz.func41, Tryz.ntmps41
        go_wp2
        go_ret
        exact ⟨ret_bool HN.out.symm, (Below.refl _ _).alloc (Nat.le_refl _) _⟩
    · have h2' : (d.S.length : Int) < 1 := by omega
      clear h1
      go_enter Tryz.func41, Tryz.ntmps41
      go_wp2
      go_ret
      exact ⟨ret_bool HN.out.symm, (Below.refl _ _).alloc (Nat.le_refl _) _⟩

end Go.Proofs.YthchlfllcnlmjaaGreatDoor

/-! Contracts of both DiskRight, at a right disk and at one that is not. -/
namespace Go.Proofs.YthchlfllcnlmjaaGreatDoor
open Go.ChangeShapes Go.WideShapes Go.ChangeAt Go.RowKit

/-- It says b, and nothing that was there has turned. -/
def Says (w : World) (b : Bool) (e : Ending) (w' : World) : Prop := e = .returned (.bool b) ∧ Below w.heap.size w w'
theorem spec_right_yes (v : Value) (d : Dk) (w : World) (hv : DkAt w w.heap.size v d) (hS : d.S.length ≤ 1048576) (hP : d.P.length ≤ 1048576) (h : Right d) :
    Calls Tryz.prog 45 #[v] w (Says w true) := (spec_right v d w hv (by omega) (by omega)).mono fun e w' ⟨h1, h2⟩ => ⟨by rw [h1, rightB_yes h], h2⟩
theorem spec_right_no (v : Value) (d : Dk) (w : World) (hv : DkAt w w.heap.size v d) (hS : d.S.length ≤ 1048576) (hP : d.P.length ≤ 1048576) (h : ¬ Right d) :
    Calls Tryz.prog 45 #[v] w (Says w false) := (spec_right v d w hv (by omega) (by omega)).mono fun e w' ⟨h1, h2⟩ => ⟨by rw [h1, rightB_no h], h2⟩
theorem impl_right_yes (v : Value) (d : Dk) (w : World) (hv : DkAt w w.heap.size v d) (hS : d.S.length ≤ 1048576) (hP : d.P.length ≤ 1048576) (h : Right d) :
    Calls Tryz.prog 41 #[v] w (Says w true) := (impl_right v d w hv (by omega) (by omega)).mono fun e w' ⟨h1, h2⟩ => ⟨by rw [h1, rightB_yes h], h2⟩
theorem impl_right_no (v : Value) (d : Dk) (w : World) (hv : DkAt w w.heap.size v d) (hS : d.S.length ≤ 1048576) (hP : d.P.length ≤ 1048576) (h : ¬ Right d) :
    Calls Tryz.prog 41 #[v] w (Says w false) := (impl_right v d w hv (by omega) (by omega)).mono fun e w' ⟨h1, h2⟩ => ⟨by rw [h1, rightB_no h], h2⟩

end Go.Proofs.YthchlfllcnlmjaaGreatDoor
