/-
  numAt.
-/
import Derived.Test.YthchlfllcnlmjaaGreatDoorProg
import Derived.Test.YthchlfllcnlmjaaGreatDoorBase1
import Derived.ProofKit
import Derived.Laws.BitsAllLaws
import Derived.WalkMore
/-! The contract of the program's GetNum, by unfolded, groupsAt and numAt. -/
namespace Go.Proofs.YthchlfllcnlmjaaGreatDoor
open Go.ChangeShapes Go.WideShapes Go.ChangeAt Go.RowKit

theorem impl_unfolded (u : Nat) (w : World) (h : u < 18446744073709551616) :
    Calls Tryz.prog 111 #[.int .u64 (u : Int)] w fun e w' => e = .returned (.int .i64 (unf u)) ∧ w = w' := by
  have E1 := and_one64 u h
  by_cases ho : u % 2 = 1
  · have HF := Lib.hid (unf_odd ho)
    have HX := Lib.hid (xor_i64_ones (u / 2) (by omega))
    have ho' : (u : Int) % 2 = 1 := by omega
    rw [ho'] at E1
    clear ho ho'
    go_enter Tryz.func111, Tryz.ntmps111
    go_wp2
    go_ret
    have hx := HX.out
    rw [Int.natCast_ediv] at hx
    exact ⟨by rw [HF.out]; exact congrArg (fun z => Ending.returned (.int .i64 z)) hx, rfl⟩
  · have HF := Lib.hid (unf_even ho)
    have HX := Lib.hid (xor_i64_zero (u / 2) (by omega))
    have ho' : (u : Int) % 2 = 0 := by omega
    rw [ho'] at E1
    clear ho ho'
    go_enter Tryz.func111, Tryz.ntmps111
    go_wp2
    go_ret
    have hx := HX.out
    rw [Int.natCast_ediv] at hx
    exact ⟨by rw [HF.out]; exact congrArg (fun z => Ending.returned (.int .i64 z)) hx, rfl⟩

/-- What groupsAt hands back. -/
def grpOut (g : Nat × Nat × Nat) : Value := if g.1 = 0 then .tuple #[.int .u64 (g.2.1 : Int), .int .i64 (g.2.2 : Int), .nilIface] else .tuple #[.int .u64 0, .int .i64 0, .iface 106 (.agg #[.int .i64 (g.1 : Int)])]
theorem grpOut_ok (u p : Nat) : grpOut (0, u, p) = .tuple #[.int .u64 (u : Int), .int .i64 (p : Int), .nilIface] := rfl
theorem grpOut_bad (c : Nat) (h : c ≠ 0) : grpOut (c, 0, 0) = .tuple #[.int .u64 0, .int .i64 0, .iface 106 (.agg #[.int .i64 (c : Int)])] := if_neg h

set_option maxRecDepth 100000 in
set_option maxHeartbeats 4000000 in
theorem impl_groups (s : ByteArray) (n : Nat) (w : World) (hm : s.size ≤ 8000) (hn : n < s.size) :
    Calls Tryz.prog 110 #[.string s, .int .i64 (n : Int)] w fun e w' => e = .returned (grpOut (grpAt s 0 n 0)) ∧ w = w' := by
  go_enter Tryz.func110, Tryz.ntmps110
  go_wp2
  refine wp_scope_leaps (fun l a' w' => w' = w ∧ (
      (l = 0 ∧ ∃ (k u : Nat) (x2 x3 x8 x10 x11 x12 x13 x14 x15 x16 x17 x18 x19 x20 x21 x22 x23 x24 x25 x26 x27 x28 x29 x30 x31 x32 x33 x34 x35 x36 x37 x38 x39 x40 x41 x42 x43 x44 x45 x46 x47 x48 : Value), a' = { tmps := #[.string s, .int .i64 ((n + k : Nat) : Int), x2, x3, .int .u64 0, .int .i64 0, .nilIface, .int .u64 (u : Int), x8, .int .i64 (k : Int), x10, x11, x12, x13, x14, x15, x16, x17, x18, x19, x20, x21, x22, x23, x24, x25, x26, x27, x28, x29, x30, x31, x32, x33, x34, x35, x36, x37, x38, x39, x40, x41, x42, x43, x44, x45, x46, x47, x48], defers := [] } ∧ 1 ≤ k ∧ k ≤ 9 ∧ n + k ≤ s.size ∧ u < 2 ^ (7 * k) ∧ grpAt s 0 n 0 = grpAt s k (n + k) u) ∨
      (l = 2 ∧ ∃ (k u c : Nat) (x2 x3 x10 x11 x12 x13 x14 x15 x16 x17 x18 x19 x20 x21 x22 x23 x24 x25 x26 x27 x28 x29 x30 x31 x32 x33 x34 x35 x36 x37 x38 x39 x40 x41 x42 x43 x44 x45 x46 x47 x48 : Value), a' = { tmps := #[.string s, .int .i64 ((n + k : Nat) : Int), x2, x3, .int .u64 0, .int .i64 0, .nilIface, .int .u64 (u : Int), .int .u8 (c : Int), .int .i64 (k : Int), x10, x11, x12, x13, x14, x15, x16, x17, x18, x19, x20, x21, x22, x23, x24, x25, x26, x27, x28, x29, x30, x31, x32, x33, x34, x35, x36, x37, x38, x39, x40, x41, x42, x43, x44, x45, x46, x47, x48], defers := [] } ∧ k ≤ 10 ∧ c < 256 ∧ (c = 0 → 1 < k → grpAt s 0 n 0 = (3, 0, 0)) ∧ (¬ (c = 0 ∧ 1 < k) → grpAt s 0 n 0 = (0, u, n + k))) ∨
      (l = 1 ∧ ∃ (x0 x1 x2 x3 x4 x5 x6 x7 x8 x9 x10 x11 x12 x13 x14 x15 x16 x17 x18 x19 x20 x21 x22 x23 x24 x25 x26 x27 x28 x29 x30 x31 x32 x33 x34 x35 x36 x37 x38 x39 x40 x41 x42 x43 x44 x45 x46 x47 x48 : Value), a' = { tmps := #[x0, x1, x2, x3, x4, x5, x6, x7, x8, x9, x10, x11, x12, x13, x14, x15, x16, x17, x18, x19, x20, x21, x22, x23, x24, x25, x26, x27, x28, x29, x30, x31, x32, x33, x34, x35, x36, x37, x38, x39, x40, x41, x42, x43, x44, x45, x46, x47, x48], defers := [] } ∧ grpAt s 0 n 0 = (3, 0, 0)))) (fun l a _ => if l = 0 then 12 - (intOf (a.tmps.getD 9 undef)).toNat else if l = 2 then 1 else 0) ?_ ?_
  · go_wp2
    go_step3
    have hc256 : (s[n].toNat : Int) < 256 := by have := s[n].toNat_lt; omega
    have HBE := Lib.hid (byteAt_eq s n hn)
    have E1 := and127_u8 s[n].toNat (by omega)
    have E2 := or_zero s[n].toNat
    by_cases hc : s[n].toNat < 128
    · have hc' : (s[n].toNat : Int) < 128 := by omega
      have HG := Lib.hid (grpAt_last (s := s) (k := 0) (p := n) (u := 0) (by omega) hn (by omega) (by rw [HBE.out]; exact hc) (by omega))
      rw [HBE.out] at HG
      clear hc
      go_wp2
      go_step3
      refine ⟨rfl, .inr (.inl ⟨rfl, 1, s[n].toNat % 128, s[n].toNat, _, _, _, _, _, _, _, _, _, _, _, _, _, _, _, _, _, _, _, _, _, _, _, _, _, _, _, _, _, _, _, _, _, _, _, _, _, _, _, _, _, rfl, by omega, by omega, by omega, fun _ => ?_⟩)⟩
      rw [HG.out]; simp
    · have hc' : ¬ (s[n].toNat : Int) < 128 := by omega
      have HG := Lib.hid (grpAt_more (s := s) (k := 0) (p := n) (u := 0) (by omega) hn (by omega) (by rw [HBE.out]; exact hc))
      rw [HBE.out] at HG
      clear hc
      go_wp2
      go_step3
      exact ⟨rfl, .inl ⟨rfl, 1, s[n].toNat % 128, _, _, _, _, _, _, _, _, _, _, _, _, _, _, _, _, _, _, _, _, _, _, _, _, _, _, _, _, _, _, _, _, _, _, _, _, _, _, _, _, _, _, rfl, by omega, by omega, by omega, by omega, by rw [HG.out]; simp⟩⟩
  · rintro l a' w' ⟨rfl, ⟨rfl, k, u, x2, x3, x8, x10, x11, x12, x13, x14, x15, x16, x17, x18, x19, x20, x21, x22, x23, x24, x25, x26, x27, x28, x29, x30, x31, x32, x33, x34, x35, x36, x37, x38, x39, x40, x41, x42, x43, x44, x45, x46, x47, x48, rfl, hk1, hk9, hnk, hu, hG⟩ | ⟨rfl, k, u, c, x2, x3, x10, x11, x12, x13, x14, x15, x16, x17, x18, x19, x20, x21, x22, x23, x24, x25, x26, x27, x28, x29, x30, x31, x32, x33, x34, x35, x36, x37, x38, x39, x40, x41, x42, x43, x44, x45, x46, x47, x48, rfl, hk, hc, hb, ho⟩ | ⟨rfl, x0, x1, x2, x3, x4, x5, x6, x7, x8, x9, x10, x11, x12, x13, x14, x15, x16, x17, x18, x19, x20, x21, x22, x23, x24, x25, x26, x27, x28, x29, x30, x31, x32, x33, x34, x35, x36, x37, x38, x39, x40, x41, x42, x43, x44, x45, x46, x47, x48, rfl, hb⟩⟩
    · refine ⟨_, rfl, ?_⟩
      have HU := Lib.hid hu; clear hu
      have HG := Lib.hid hG; clear hG
      by_cases hp : n + k < s.size
      · have HBE := Lib.hid (byteAt_eq s (n + k) hp)
        have hc256 : (s[n + k].toNat : Int) < 256 := by have := s[n + k].toNat_lt; omega
        have E1 := and127_u8 s[n + k].toNat (by omega)
        by_cases h9 : k = 9 ∧ 1 < s[n + k].toNat
        · have HE : Hid (grpAt s 0 n 0 = (3, 0, 0)) := Lib.hid (by rw [HG.out, h9.1]; exact grpAt_tenth (by have := h9.1; omega) (by have := h9.1; subst this; rw [HBE.out]; exact h9.2))
          obtain ⟨h9a, h9b⟩ := h9
          have h9a' : ((k : Int) + 1 == 10) = true := by simp; omega
          have h9b' : 1 < (s[n + k].toNat : Int) := by omega
          clear h9a h9b
          go_wp2
          go_step3
          refine ⟨⟨rfl, .inr (.inr ⟨rfl, _, _, _, _, _, _, _, _, _, _, _, _, _, _, _, _, _, _, _, _, _, _, _, _, _, _, _, _, _, _, _, _, _, _, _, _, _, _, _, _, _, _, _, _, _, _, _, _, _, rfl, HE.out⟩)⟩, ?_⟩
          simp [intOf]; omega
        · have HL := Lib.hid (put_lt64 hk9 HU.out h9)
          have HO := Lib.hid (or_wrap hk9 HU.out h9)
          have H9 : Hid (¬ (k = 9 ∧ 1 < byteAt s (n + k))) := Lib.hid (by rw [HBE.out]; exact h9)
          have h9' : ((k : Int) + 1 == 10) = false ∨ (((k : Int) + 1 == 10) = true ∧ ¬ 1 < (s[n + k].toNat : Int)) := by
            simp only [beq_iff_eq, beq_eq_false_iff_ne]; omega
          by_cases hc : s[n + k].toNat < 128
          · have hc' : (s[n + k].toNat : Int) < 128 := by omega
            have HB : Hid (s[n + k].toNat = 0 → 1 < k + 1 → grpAt s 0 n 0 = (3, 0, 0)) := Lib.hid fun q1 q2 => by rw [HG.out]; exact grpAt_long hk9 hp (by rw [HBE.out]; exact q1) (by omega)
            have HN : Hid (¬ (s[n + k].toNat = 0 ∧ 1 < k + 1) → grpAt s 0 n 0 = (0, u + s[n + k].toNat % 128 * 2 ^ (7 * k), n + (k + 1))) := Lib.hid fun q => by
              rw [HG.out, grpAt_last hk9 hp H9.out (by rw [HBE.out]; exact hc) (by rw [HBE.out]; omega), HBE.out, Nat.add_assoc]
            clear h9 hc
            rcases h9' with h9' | ⟨h9', h9''⟩
            all_goals
              go_wp2
              go_step3
              rw [HO.out]
              refine ⟨⟨rfl, .inr (.inl ⟨rfl, k + 1, _, s[n + k].toNat, _, _, _, _, _, _, _, _, _, _, _, _, _, _, _, _, _, _, _, _, _, _, _, _, _, _, _, _, _, _, _, _, _, _, _, _, _, _, _, _, _, rfl, by omega, by omega, HB.out, HN.out⟩)⟩, ?_⟩
              simp [intOf]; omega
          · have hc' : ¬ (s[n + k].toNat : Int) < 128 := by omega
            have HM := Lib.hid (grpAt_more (u := u) hk9 hp H9.out (by rw [HBE.out]; exact hc))
            rw [HBE.out] at HM
            have hk8 : k ≤ 8 := by omega
            have HU' := Lib.hid (put_lt (c := s[n + k].toNat) HU.out)
            have h9a : ((k : Int) + 1 == 10) = false := by simp; omega
            clear h9 h9' hc
            go_wp2
            go_step3
            rw [HO.out]
            refine ⟨⟨rfl, .inl ⟨rfl, k + 1, _, _, _, _, _, _, _, _, _, _, _, _, _, _, _, _, _, _, _, _, _, _, _, _, _, _, _, _, _, _, _, _, _, _, _, _, _, _, _, _, _, _, _, rfl, by omega, by omega, by omega, HU'.out, by rw [HG.out, HM.out, Nat.add_assoc]⟩⟩, ?_⟩
            simp [intOf]; omega
      · have HE : Hid (grpAt s 0 n 0 = (4, 0, 0)) := Lib.hid (by rw [HG.out]; exact grpAt_short hk9 (by omega))
        have hp' : (s.size : Int) ≤ (n : Int) + k := by omega
        go_wp2
        simp only [leap]
        go_ret3
        exact ⟨by rw [HE.out, grpOut_bad 4 (by omega)]; rfl, rfl⟩
    · refine ⟨_, rfl, ?_⟩
      by_cases h : c = 0 ∧ 1 < k
      · have HE := Lib.hid (hb h.1 h.2)
        obtain ⟨h1, h2⟩ := h
        have h1' : ((c : Int) == 0) = true := by simp [h1]
        have h2' : 1 < (k : Int) := by omega
        clear hb ho h1
        go_wp2
        go_step3
        refine ⟨⟨rfl, .inr (.inr ⟨rfl, _, _, _, _, _, _, _, _, _, _, _, _, _, _, _, _, _, _, _, _, _, _, _, _, _, _, _, _, _, _, _, _, _, _, _, _, _, _, _, _, _, _, _, _, _, _, _, _, _, rfl, HE.out⟩)⟩, ?_⟩
        simp
      · have HE := Lib.hid (ho h)
        have h' : ((c : Int) == 0) = false ∨ (((c : Int) == 0) = true ∧ ¬ 1 < (k : Int)) := by
          simp only [beq_iff_eq, beq_eq_false_iff_ne]; omega
        clear hb ho h
        rcases h' with h' | ⟨h', h''⟩
        all_goals
          go_wp2
          simp only [leap]
          go_ret3
          exact ⟨by rw [HE.out, grpOut_ok]; rfl, rfl⟩
    · refine ⟨_, rfl, ?_⟩
      have HE := Lib.hid hb; clear hb
      go_wp2
      simp only [leap]
      go_ret3
      exact ⟨by rw [HE.out, grpOut_bad 3 (by omega)]; rfl, rfl⟩

theorem impl_groups_far (s : ByteArray) (a : Int) (w : World) (hn : (s.size : Int) ≤ a) :
    Calls Tryz.prog 110 #[.string s, .int .i64 a] w fun e w' => e = .returned (grpOut (4, 0, 0)) ∧ w = w' := by
  go_enter Tryz.func110, Tryz.ntmps110
  go_wp2
  go_step3
  go_wp2
  go_step3
  go_wp2
  rw [Exit.noGoto_ret]
  go_ret3
  exact ⟨rfl, rfl⟩

end Go.Proofs.YthchlfllcnlmjaaGreatDoor

/-! The contract of the program's numAt. -/
namespace Go.Proofs.YthchlfllcnlmjaaGreatDoor
open Go.ChangeShapes Go.WideShapes Go.ChangeAt Go.RowKit

/-- What numAt hands back. -/
def numAtOut (r : Int × Int × Int) : Value := if r.2.2 = 0 then .tuple #[.int .i64 r.1, .int .i64 r.2.1, .nilIface] else .tuple #[.int .i64 0, .int .i64 0, .iface 106 (.agg #[.int .i64 r.2.2])]

/-- groupsAt, from whatever place on. -/
theorem impl_groups_any (s : ByteArray) (a : Int) (w : World) (hm : s.size ≤ 8000) (ha : 0 ≤ a) :
    Calls Tryz.prog 110 #[.string s, .int .i64 a] w fun e w' => e = .returned (grpOut (grpAt s 0 a.toNat 0)) ∧ w = w' := by
  by_cases h : a < s.size
  · obtain ⟨n, rfl⟩ := Int.eq_ofNat_of_zero_le ha
    rw [Int.toNat_natCast]
    exact impl_groups s n w hm (by omega)
  · rw [grpAt_short (s := s) (k := 0) (p := a.toNat) (u := 0) (by omega) (by omega)]
    exact impl_groups_far s a w (by omega)

set_option maxRecDepth 100000 in
theorem impl_numat (s : ByteArray) (a : Int) (w : World) (hm : s.size ≤ maxLen) :
    Calls Tryz.prog 99 #[.string s, .int .i64 a] w fun e w' => e = .returned (numAtOut (getNum s a)) ∧ w = w' := by
  unfold maxLen at hm
  by_cases h8 : 8000 < s.size
  · have H : Hid (numAtOut (getNum s a) = .tuple #[.int .i64 0, .int .i64 0, .iface 106 (.agg #[.int .i64 2])]) := Lib.hid (by rw [getNum_size h8]; rfl)
    have h8' : 8000 < (s.size : Int) := by omega
    go_enter Tryz.func99, Tryz.ntmps99
    go_wp2
    go_ret3
    exact ⟨by rw [H.out]; rfl, rfl⟩
  · have h8' : ¬ 8000 < (s.size : Int) := by omega
    by_cases ha : a < 0
    · have H : Hid (numAtOut (getNum s a) = .tuple #[.int .i64 0, .int .i64 0, .iface 106 (.agg #[.int .i64 1])]) := Lib.hid (by rw [getNum_form (by omega) ha]; rfl)
      go_enter Tryz.func99, Tryz.ntmps99
      go_wp2
      go_ret3
      exact ⟨by rw [H.out]; rfl, rfl⟩
    · have HGr := Lib.hid (fun W => impl_groups_any s a W (by omega) (by omega))
      rcases getNum_shape s a with ⟨u, p, hu, hp, hg, _, _, _, hgr⟩ | ⟨c, hc1, hc2, hg, hgr⟩
      · rw [hgr, grpOut_ok] at HGr
        have H : Hid (numAtOut (getNum s a) = .tuple #[.int .i64 (unf u), .int .i64 (p : Int), .nilIface]) := Lib.hid (by rw [hg]; rfl)
        clear hgr hg
        go_enter Tryz.func99, Tryz.ntmps99
        go_wp2_with fail
        refine (HGr.out _).mono ?_
        rintro e w' ⟨rfl, rfl⟩
        go_wp2_with fail
        refine (impl_unfolded u _ hu).mono ?_
        rintro e w' ⟨rfl, rfl⟩
        go_wp2
        go_ret3
        exact ⟨by rw [H.out]; rfl, rfl⟩
      · rw [hgr (by omega) (by omega), grpOut_bad c (by omega)] at HGr
        have H : Hid (numAtOut (getNum s a) = .tuple #[.int .i64 0, .int .i64 0, .iface 106 (.agg #[.int .i64 (c : Int)])]) := Lib.hid (by rw [hg]; exact if_neg (by simp; omega))
        clear hgr hg
        go_enter Tryz.func99, Tryz.ntmps99
        go_wp2_with fail
        refine (HGr.out _).mono ?_
        rintro e w' ⟨rfl, rfl⟩
        go_wp2
        go_ret3
        exact ⟨by rw [H.out]; rfl, rfl⟩

end Go.Proofs.YthchlfllcnlmjaaGreatDoor
