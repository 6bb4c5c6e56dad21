/-
  Right updates: contract of the program.
-/
import Derived.Test.YtaggmcdfggmlhaaUpQ
namespace Go.Proofs.Ytaggmcdfggmlhaa
set_option linter.unusedSimpArgs false
set_option linter.unusedVariables false
open Go.ChangeShapes Go.WideShapes Go.ChangeAt Go.RowKit

set_option maxRecDepth 100000 in
set_option maxHeartbeats 16000000 in
theorem impl_updR (v : Value) (u : Up) (w : World) (hv : UpAt w w.heap.size v u) (hf : FitU u) :
    Calls Try.prog 39 #[v] w (Tell (updB u) w) := by
  obtain ⟨vx, vh, rfl, hx, hh⟩ := hv
  have HRX := Lib.hid (fun W (hb : Below w.heap.size w W) => impl_riseM vx u.X W ((hx.below hb).more hb.size) hf.1.1)
  have HRH := Lib.hid (fun W (hb : Below w.heap.size w W) => impl_riseI vh u.H W ((hh.below hb).more hb.size) hf.1.2)
  obtain ⟨A1, k1, rfl⟩ := hx.form; obtain ⟨A2, k2, rfl⟩ := hh.form
  have HVX := Lib.hid hx; have HVH := Lib.hid hh; clear hx hh
  have HSX := Lib.hid hf.2
  have hX := hf.1.1; have hH := hf.1.2
  clear hf
  have HL0 := Lib.hid ((Lg.start w).alloc (.cells #[.slice A1 u.X.length k1, .slice A2 u.H.length k2] 37))
  by_cases h60 : u.X.length ≤ 60
  case neg =>
    have h60' : (60 : Int) < (u.X.length : Int) := by omega
    have HE := Lib.hid (upd_no (u := u) (fun h => h60 h.1))
    go_enter Try.func39, Try.ntmps39
    go_wp2
    go_ret
    exact ⟨ret_bool HE.out.symm, HL0.out.bel⟩
  have h60' : ¬ (60 : Int) < (u.X.length : Int) := by omega
  by_cases h80 : u.H.length ≤ 80
  case neg =>
    have h80' : (80 : Int) < (u.H.length : Int) := by omega
    have HE := Lib.hid (upd_no (u := u) (fun h => h80 h.2.1))
    go_enter Try.func39, Try.ntmps39
    go_wp2
    go_ret
    exact ⟨ret_bool HE.out.symm, HL0.out.bel⟩
  have h80' : ¬ (80 : Int) < (u.H.length : Int) := by omega
  go_enter Try.func39, Try.ntmps39
  go_wp2
  go_loopw [20] (fun i wr => ∃ k : Nat, k ≤ u.X.length ∧ i = .int .i64 k ∧ AllTo UItemP u.X k ∧ Lg w wr [(w.heap.size, .cells #[.slice A1 u.X.length k1, .slice A2 u.H.length k2] 37)] []) (fun i _ => u.X.length - (intOf i).toNat)
  case atStart => exact ⟨0, Nat.zero_le _, rfl, allTo_zero _ _, HL0.out⟩
  case round =>
    obtain ⟨k, hk, rfl, hn, hL⟩ := hrel
    have HN := Lib.hid hn; have HL := Lib.hid hL; clear hn hL
    by_cases hlt : k < u.X.length
    case pos =>
      obtain ⟨ad, c', e', _, c0, c1, c2, c3, c4, c5, c6, c7⟩ := (HVX.out.below HL.out.bel).item k hlt
      simp only [Value.slice.injEq, true_and] at e'
      obtain ⟨rfl, rfl⟩ := e'
      have hsz := HSX.out _ (getElem_mem' u.X k hlt)
      obtain ⟨x, hx⟩ : ∃ x, x = u.X[k] := ⟨_, rfl⟩
      rw [← hx] at c0 c1 c2 c3 c4 c5 c6 c7 hsz
      have HXX := Lib.hid hx; clear hx
      have HI := Lib.hid (fun W => impl_item x W hsz)
      have HLA := Lib.hid (HL.out.alloc (.cells #[.int .i64 x.i.c, .int .i64 x.i.k, .int .i64 x.l.c, .int .i64 x.l.k, .int .i64 x.r.c, .int .i64 x.r.k, .string x.t, .bool x.g] 91))
      cases hi : itemB x with
      | false =>
        replace HI := Lib.hid (fun W => (HI.out W).mono fun _ _ h => Tell.to h hi)
        have HE := Lib.hid (upd_no (u := u) (fun h => by have := (h.2.2.1 k hlt hlt).1; rw [← HXX.out] at this; rw [(itemB_iff x).2 this] at hi; cases hi))
        go_wp2_with fail
        refine (HI.out _).mono ?_
        rintro e w1 ⟨rfl, hb⟩
        replace HLA := Lib.hid (HLA.out.lift hb)
        clear hb c0 c1 c2 c3 c4 c5 c6 c7
        go_wp2
        go_ret
        exact ⟨ret_bool HE.out.symm, HLA.out.bel⟩
      | true =>
        replace HI := Lib.hid (fun W => (HI.out W).mono fun _ _ h => Tell.to h hi)
        have HII := Lib.hid ((itemB_iff x).1 hi)
        go_wp2_with fail
        refine (HI.out _).mono ?_
        rintro e w1 ⟨rfl, hb⟩
        replace HLA := Lib.hid (HLA.out.lift hb)
        clear hb c0 c1 c2 c3 c4 c5 c6 c7
        obtain ⟨c0, c1, c2, c3, c4, c5, c6, c7⟩ := box8 (HLA.out.blk _ List.mem_cons_self)
        cases hg : x.g with
        | true =>
          have HE := Lib.hid (upd_no (u := u) (fun h => by have := (h.2.2.1 k hlt hlt).2; rw [← HXX.out, hg] at this; cases this))
          go_wp2
          go_ret
          exact ⟨ret_bool HE.out.symm, HLA.out.bel⟩
        | false =>
          have HP := Lib.hid (show UItemP x from ⟨HII.out, hg⟩)
          go_wp2
          go_roundw
          case rel => exact ⟨k + 1, by omega, by go_num, allTo_step HN.out (fun _ => by rw [← HXX.out]; exact HP.out), ⟨HLA.out.bel, fun p hp => HLA.out.blk p (List.mem_cons_of_mem _ hp), fun p hp => absurd hp (by simp), fun p hp => absurd hp (by simp)⟩⟩
          case measure => simp [intOf]; omega
    case neg =>
    have hkl : k = u.X.length := by omega
    have HNX := Lib.hid (show AllTo UItemP u.X u.X.length from by rw [← hkl]; exact HN.out)
    obtain ⟨b0, b1⟩ := box2 (HL.out.blk _ List.mem_cons_self)
    have HL1 := HL
    clear HN
    go_wp2
    go_loopw [35] (fun i wr => ∃ k : Nat, k ≤ u.H.length ∧ i = .int .i64 k ∧ AllTo IdP u.H k ∧ Lg w wr [(w.heap.size, .cells #[.slice A1 u.X.length k1, .slice A2 u.H.length k2] 37)] []) (fun i _ => u.H.length - (intOf i).toNat)
    case atStart => exact ⟨0, Nat.zero_le _, rfl, allTo_zero _ _, HL1.out⟩
    case round =>
    clear hkl hlt hk b0 b1 HL HL1
    obtain ⟨k, hk, rfl, hn, hL⟩ := hrel
    have HN := Lib.hid hn; have HL := Lib.hid hL; clear hn hL
    by_cases hlt : k < u.H.length
    case pos =>
      obtain ⟨ad, c', e', _, c0, c1⟩ := (HVH.out.below HL.out.bel).two k hlt
      simp only [Value.slice.injEq, true_and] at e'
      obtain ⟨rfl, rfl⟩ := e'
      obtain ⟨x, hx⟩ : ∃ x, x = u.H[k] := ⟨_, rfl⟩
      rw [← hx] at c0 c1
      have HXX := Lib.hid hx; clear hx
      have HI := Lib.hid (fun W => impl_id x W)
      have HLA := Lib.hid (HL.out.alloc (.cells #[.int .i64 x.c, .int .i64 x.k] 89))
      cases hi : idB x with
      | false =>
        replace HI := Lib.hid (fun W => (HI.out W).mono fun _ _ h => Tell.to h hi)
        have HE := Lib.hid (upd_no (u := u) (fun h => by have := h.2.2.2.2.1 k hlt hlt; rw [← HXX.out] at this; rw [(idB_iff x).2 this] at hi; cases hi))
        go_wp2_with fail
        refine (HI.out _).mono ?_
        rintro e w1 ⟨rfl, hb⟩
        replace HLA := Lib.hid (HLA.out.lift hb)
        clear hb c0 c1
        go_wp2
        go_ret
        exact ⟨ret_bool HE.out.symm, HLA.out.bel⟩
      | true =>
        replace HI := Lib.hid (fun W => (HI.out W).mono fun _ _ h => Tell.to h hi)
        have HP := Lib.hid (show IdP x from (idB_iff x).1 hi)
        go_wp2_with fail
        refine (HI.out _).mono ?_
        rintro e w1 ⟨rfl, hb⟩
        replace HLA := Lib.hid (HLA.out.lift hb)
        clear hb c0 c1
        go_wp2
        go_roundw
        case rel => exact ⟨k + 1, by omega, by go_num, allTo_step HN.out (fun _ => by rw [← HXX.out]; exact HP.out), ⟨HLA.out.bel, fun p hp => HLA.out.blk p (List.mem_cons_of_mem _ hp), fun p hp => absurd hp (by simp), fun p hp => absurd hp (by simp)⟩⟩
        case measure => simp [intOf]; omega
    case neg =>
    have hkl : k = u.H.length := by omega
    have HNH := Lib.hid (show AllTo IdP u.H u.H.length from by rw [← hkl]; exact HN.out)
    obtain ⟨b0, b1⟩ := box2 (HL.out.blk _ List.mem_cons_self)
    clear HN
    cases hr : riseB Im.i u.X with
    | false =>
      replace HRX := Lib.hid (fun W hb => (HRX.out W hb).mono fun _ _ h => Tell.to h hr)
      have HE := Lib.hid (upd_no (u := u) (fun h => by rw [riseB_yes h.2.2.2.1] at hr; cases hr))
      go_wp2_with fail
      refine (HRX.out _ HL.out.bel).mono ?_
      rintro e w1 ⟨rfl, hb⟩
      replace HL := Lib.hid (HL.out.lift hb)
      clear hb b0 b1
      go_wp2
      go_ret
      exact ⟨ret_bool HE.out.symm, HL.out.bel⟩
    | true =>
      replace HRX := Lib.hid (fun W hb => (HRX.out W hb).mono fun _ _ h => Tell.to h hr)
      have HE := Lib.hid (show updB u = riseB nmI u.H from by
        rw [Bool.eq_iff_iff, updB_iff, riseB_iff]
        exact ⟨fun h => h.2.2.2.2.2, fun h => ⟨h60, h80, HNX.out, (riseB_iff _ _).1 hr, HNH.out, h⟩⟩)
      go_wp2_with fail
      refine (HRX.out _ HL.out.bel).mono ?_
      rintro e w1 ⟨rfl, hb⟩
      replace HL := Lib.hid (HL.out.lift hb)
      clear hb b0 b1
      obtain ⟨b0, b1⟩ := box2 (HL.out.blk _ List.mem_cons_self)
      go_wp2_with fail
      refine (HRH.out _ HL.out.bel).mono ?_
      rintro e w2 ⟨rfl, hb⟩
      replace HL := Lib.hid (HL.out.lift hb)
      clear hb b0 b1
      go_wp2
      go_ret
      exact ⟨ret_bool HE.out.symm, HL.out.bel⟩

end Go.Proofs.Ytaggmcdfggmlhaa
