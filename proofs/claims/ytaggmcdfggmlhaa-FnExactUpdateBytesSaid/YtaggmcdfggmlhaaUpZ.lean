/-
  UpdateBytes: contracts of the model and of the program.
-/
import Derived.Test.YtaggmcdfggmlhaaUpB
namespace Go.Proofs.Ytaggmcdfggmlhaa
set_option linter.unusedSimpArgs false
set_option linter.unusedVariables false
open Go.ChangeShapes Go.WideShapes Go.ChangeAt Go.RowKit

set_option maxRecDepth 100000 in
set_option maxHeartbeats 8000000 in
theorem spec_putids (v : Value) (l : List Nm) (w : World) (hv : Sl w w.heap.size 2 encN v l) (hl : l.length ≤ 1000) (hp : ∀ x ∈ l, HeldN x) :
    Calls Try.prog 103 #[v] w (Back (.string (rowBy idBy l)) w) := by
  obtain ⟨A, c, rfl⟩ := hv.form
  have HV := Lib.hid hv; have HP := Lib.hid hp; clear hv hp
  have HN := Lib.hid (fun W => spec_putnum (l.length : Int) W (by omega) (by omega))
  go_enter Try.func103, Try.ntmps103
  go_wp2_with fail
  refine (HN.out _).mono ?_
  rintro e w1 ⟨rfl, hb⟩
  have HB1 := Lib.hid hb; clear hb
  have HE := Lib.hid (rowTo_all idBy l)
  go_wp2
  go_loopw [3, 4] (fun t i wr => ∃ k : Nat, k ≤ l.length ∧ i = .int .i64 k ∧ t = .string (rowTo idBy l k) ∧ Below w.heap.size w wr) (fun _ i _ => l.length - (intOf i).toNat)
  case atStart => exact ⟨0, Nat.zero_le _, rfl, rfl, HB1.out⟩
  case round =>
    obtain ⟨k, hk, rfl, rfl, hb⟩ := hrel
    have HB := Lib.hid hb; clear hb
    by_cases hlt : k < l.length
    case neg =>
      obtain rfl : k = l.length := by omega
      go_wp2
      go_ret
      exact ⟨rfl, HB.out⟩
    obtain ⟨ad, c', e', _, c0, c1⟩ := (HV.out.below HB.out).two k hlt
    simp only [Value.slice.injEq, true_and] at e'
    obtain ⟨rfl, rfl⟩ := e'
    have hpx := HP.out _ (List.getElem_mem hlt)
    have HS := Lib.hid (rowTo_succ idBy hlt)
    obtain ⟨x, hx⟩ : ∃ x, x = l[k] := ⟨_, rfl⟩
    rw [← hx] at c0 c1 hpx HS
    clear hx
    have hsx := idBy_size x
    have hsr := rowTo_id l k hk
    have hns : ¬ 9223372036854775807 < (rowTo idBy l k).size + (idBy x).size := by omega
    have HC := Lib.hid (fun W => spec_putid x W hpx)
    have HA := Lib.hid (append_catB (rowTo idBy l k) (idBy x))
    clear hpx
    go_wp2_with fail
    refine (HC.out _).mono ?_
    rintro e w2 ⟨rfl, hb⟩
    have HB2 := Lib.hid (below_call HB.out HB.out.size hb)
    clear hb
    go_wp2
    go_roundw
    case rel => exact ⟨k + 1, by omega, by go_num, by rw [HS.out, ← HA.out], HB2.out⟩
    case measure => simp [intOf]; omega

set_option maxRecDepth 100000 in
set_option maxHeartbeats 8000000 in
theorem spec_updBytes (v : Value) (u : Up) (w : World) (hv : UpAt w w.heap.size v u) (hf : FitU u) (hh : HeldU u) :
    Calls Try.prog 44 #[v] w (Back (.string (updBy u)) w) := by
  have HD := Lib.hid (fun W (hb : Below w.heap.size w W) => spec_updR v u W (hv.lift hb) hf)
  obtain ⟨vx, vh, rfl, hx, hg⟩ := hv
  have HLH := Lib.hid (fun (h : u.H.length ≤ 1000) W (hb : Below w.heap.size w W) => spec_putids vh u.H W ((hg.below hb).more hb.size) h hh.2.2.2)
  obtain ⟨A1, k1, rfl⟩ := hx.form; obtain ⟨A2, k2, rfl⟩ := hg.form
  have HVX := Lib.hid hx
  clear hx hg hf
  have HL := Lib.hid ((Lg.start w).alloc (.cells #[.slice A1 u.X.length k1, .slice A2 u.H.length k2] 37))
  cases hd : updB u with
  | false =>
    replace HD := Lib.hid (fun W hb => (HD.out W hb).mono fun _ _ h => Tell.to h hd)
    rw [updBy_no hd]; clear hd
    go_enter Try.func44, Try.ntmps44
    go_wp2_with fail
    refine (HD.out _ HL.out.bel).mono ?_
    rintro e w1 ⟨rfl, hb1⟩
    replace HL := Lib.hid (HL.out.lift hb1); clear hb1
    go_wp2
    go_ret
    exact ⟨rfl, HL.out.bel⟩
  | true =>
    replace HD := Lib.hid (fun W hb => (HD.out W hb).mono fun _ _ h => Tell.to h hd)
    have hu := (updB_iff u).1 hd
    rw [updBy_yes hd]; clear hd
    have HTP := Lib.hid (upd_textP hu hh)
    obtain ⟨z1, z2⟩ := updBody_size hu hh
    have h60 := hu.1; have h80 := hu.2.1
    replace HLH := Lib.hid (HLH.out (by omega))
    clear hu hh
    have HN := Lib.hid (fun W => spec_putnum (u.X.length : Int) W (by omega) (by omega))
    have HSE := Lib.hid (fun W => spec_seal (updBody u) W (by unfold updBody; rw [catB_size]; omega))
    have HA2 := Lib.hid (append_catB (rowBy itemBy u.X) (rowBy idBy u.H))
    have hns2 : ¬ 9223372036854775807 < (rowBy itemBy u.X).size + (rowBy idBy u.H).size := by omega
    go_enter Try.func44, Try.ntmps44
    go_wp2_with fail
    refine (HD.out _ HL.out.bel).mono ?_
    rintro e w1 ⟨rfl, hb1⟩
    replace HL := Lib.hid (HL.out.lift hb1); clear hb1
    obtain ⟨b0, b1⟩ := box2 (HL.out.blk _ List.mem_cons_self)
    go_wp2_with fail
    refine (HN.out _).mono ?_
    rintro e w2 ⟨rfl, hb2⟩
    replace HL := Lib.hid (HL.out.lift hb2); clear hb2 b0 b1
    obtain ⟨b0, b1⟩ := box2 (HL.out.blk _ List.mem_cons_self)
    go_wp2
    go_loopw [3, 4] (fun t i wr => ∃ k : Nat, k ≤ u.X.length ∧ i = .int .i64 k ∧ t = .string (rowTo itemBy u.X k) ∧ Lg w wr [(w.heap.size, .cells #[.slice A1 u.X.length k1, .slice A2 u.H.length k2] 37)] []) (fun _ i _ => u.X.length - (intOf i).toNat)
    case atStart => exact ⟨0, Nat.zero_le _, rfl, rfl, HL.out⟩
    case round =>
      clear b0 b1 HL
      obtain ⟨k, hk, rfl, rfl, hL⟩ := hrel
      have HL := Lib.hid hL; clear hL
      obtain ⟨b0, b1⟩ := box2 (HL.out.blk _ List.mem_cons_self)
      by_cases hlt : k < u.X.length
      case neg =>
        obtain rfl : k = u.X.length := by omega
        rw [rowTo_all]
        go_wp2_with fail
        refine (HLH.out _ HL.out.bel).mono ?_
        rintro e w3 ⟨rfl, hb⟩
        replace HL := Lib.hid (HL.out.lift hb); clear hb b0 b1
        go_wp2_with fail
        rw [HA2.out]
        refine (HSE.out _).mono ?_
        rintro e w4 ⟨rfl, hb⟩
        replace HL := Lib.hid (HL.out.lift hb); clear hb
        go_wp2
        go_ret
        exact ⟨rfl, HL.out.bel⟩
      obtain ⟨ad, c', e', _, c0, c1, c2, c3, c4, c5, c6, c7⟩ := (HVX.out.below HL.out.bel).item k hlt
      simp only [Value.slice.injEq, true_and] at e'
      obtain ⟨rfl, rfl⟩ := e'
      have hpx := HTP.out _ (List.getElem_mem hlt)
      have HS := Lib.hid (rowTo_succ itemBy hlt)
      have hsr := rowTo_small itemBy u.X k hk (fun y hy => itemBy_small y (HTP.out y hy))
      obtain ⟨x, hx⟩ : ∃ x, x = u.X[k] := ⟨_, rfl⟩
      rw [← hx] at c0 c1 c2 c3 c4 c5 c6 c7 hpx HS
      clear hx
      have hsx := itemBy_small x hpx
      have hns : ¬ 9223372036854775807 < (rowTo itemBy u.X k).size + (itemBy x).size := by omega
      have HC := Lib.hid (fun W => spec_putitem x W hpx)
      have HA := Lib.hid (append_catB (rowTo itemBy u.X k) (itemBy x))
      clear hpx
      go_wp2_with fail
      refine (HC.out _).mono ?_
      rintro e w3 ⟨rfl, hb⟩
      replace HL := Lib.hid (HL.out.lift hb)
      clear hb c0 c1 c2 c3 c4 c5 c6 c7 b0 b1
      go_wp2
      go_roundw
      case rel => exact ⟨k + 1, by omega, by go_num, by rw [HS.out, ← HA.out], HL.out⟩
      case measure => simp [intOf]; omega

set_option maxRecDepth 100000 in
set_option maxHeartbeats 8000000 in
theorem impl_updBytes (v : Value) (u : Up) (w : World) (hv : UpAt w w.heap.size v u) (hf : FitU u) (hh : HeldU u) :
    Calls Try.prog 45 #[v] w (Back (.string (updBy u)) w) := by
  have HD := Lib.hid (fun W (hb : Below w.heap.size w W) => impl_updR v u W (hv.lift hb) hf)
  obtain ⟨vx, vh, rfl, hx, hg⟩ := hv
  have HLH := Lib.hid (fun (h : u.H.length ≤ 1000) W (hb : Below w.heap.size w W) => impl_listIds vh u.H W ((hg.below hb).more hb.size) h hh.2.2.2)
  have HLI := Lib.hid (fun (h : u.X.length ≤ 1000) (h2 : ∀ x ∈ u.X, TextP x) W (hb : Below w.heap.size w W) => impl_listItems vx u.X W ((hx.below hb).more hb.size) h h2)
  obtain ⟨A1, k1, rfl⟩ := hx.form; obtain ⟨A2, k2, rfl⟩ := hg.form
  clear hx hg hf
  have HL := Lib.hid ((Lg.start w).alloc (.cells #[.slice A1 u.X.length k1, .slice A2 u.H.length k2] 37))
  cases hd : updB u with
  | false =>
    replace HD := Lib.hid (fun W hb => (HD.out W hb).mono fun _ _ h => Tell.to h hd)
    rw [updBy_no hd]; clear hd
    go_enter Try.func45, Try.ntmps45
    go_wp2_with fail
    refine (HD.out _ HL.out.bel).mono ?_
    rintro e w1 ⟨rfl, hb1⟩
    replace HL := Lib.hid (HL.out.lift hb1); clear hb1
    go_wp2
    go_ret
    exact ⟨rfl, HL.out.bel⟩
  | true =>
    replace HD := Lib.hid (fun W hb => (HD.out W hb).mono fun _ _ h => Tell.to h hd)
    have hu := (updB_iff u).1 hd
    rw [updBy_yes hd]; clear hd
    obtain ⟨z1, z2⟩ := updBody_size hu hh
    have h60 := hu.1; have h80 := hu.2.1
    replace HLH := Lib.hid (HLH.out (by omega))
    replace HLI := Lib.hid (HLI.out (by omega) (upd_textP hu hh))
    clear hu hh
    go_enter Try.func45, Try.ntmps45
    go_wp2_with fail
    refine (HD.out _ HL.out.bel).mono ?_
    rintro e w1 ⟨rfl, hb1⟩
    replace HL := Lib.hid (HL.out.lift hb1); clear hb1
    go_upto_region 3 with fail
    refine wp_region_calm_lg (told [(2, fun u' => u' = .string (rowBy itemBy u.X)), (5, fun u' => u' = .string (rowBy idBy u.H)), (6, fun u' => u' = .string (updBody u)), (7, fun u' => u' = .string (sealB (updBody u)))]) (by kernel_rfl) (by kernel_rfl) (told_mono _) HL.out ?_
    repeat (first
      | (refine calm_skip (by rfl) ?_; try simp only [Act.put, List.setIfInBounds_toArray, List.set_cons_zero, List.set_cons_succ])
      | (refine calm_plain (by rfl) (by rfl) ?_; apply Exists.intro; refine ⟨fun wc hC hD => ?_, ?_⟩; (focus (clear hD; obtain ⟨b0, b1⟩ := box2 (hC.blk _ List.mem_cons_self); clear hC; go_simp; first | done | with_reducible rfl)); try simp only [Act.put, List.setIfInBounds_toArray, List.set_cons_zero, List.set_cons_succ]))
    refine calm_call _ _ (by rfl) (by rfl) ?_ ?_
    focus
      apply Exists.intro
      apply Exists.intro
      refine ⟨fun wc hC hD => ?_, fun wc hC hD => ?_⟩
      focus (clear hD; obtain ⟨b0, b1⟩ := box2 (hC.blk _ List.mem_cons_self); clear hC; go_simp; first | done | with_reducible exact ⟨rfl, rfl⟩ | with_reducible rfl)
      clear hD
      with_reducible refine (HLI.out _ hC.bel).mono ?_
      rintro e wx ⟨rfl, hb⟩
      exact ⟨_, rfl, hb, rfl, trivial⟩
    rintro _ rfl
    try simp only [Act.put, List.setIfInBounds_toArray, List.set_cons_zero, List.set_cons_succ]
    repeat (first
      | (refine calm_skip (by rfl) ?_; try simp only [Act.put, List.setIfInBounds_toArray, List.set_cons_zero, List.set_cons_succ])
      | (refine calm_plain (by rfl) (by rfl) ?_; apply Exists.intro; refine ⟨fun wc hC hD => ?_, ?_⟩; (focus (clear hD; obtain ⟨b0, b1⟩ := box2 (hC.blk _ List.mem_cons_self); clear hC; go_simp; first | done | with_reducible rfl)); try simp only [Act.put, List.setIfInBounds_toArray, List.set_cons_zero, List.set_cons_succ]))
    refine calm_call _ _ (by rfl) (by rfl) ?_ ?_
    focus
      apply Exists.intro
      apply Exists.intro
      refine ⟨fun wc hC hD => ?_, fun wc hC hD => ?_⟩
      focus (clear hD; obtain ⟨b0, b1⟩ := box2 (hC.blk _ List.mem_cons_self); clear hC; go_simp; first | done | with_reducible exact ⟨rfl, rfl⟩ | with_reducible rfl)
      clear hD
      with_reducible refine (HLH.out _ hC.bel).mono ?_
      rintro e wx ⟨rfl, hb⟩
      exact ⟨_, rfl, hb, rfl, trivial⟩
    rintro _ rfl
    try simp only [Act.put, List.setIfInBounds_toArray, List.set_cons_zero, List.set_cons_succ]
    repeat (first
      | (refine calm_skip (by rfl) ?_; try simp only [Act.put, List.setIfInBounds_toArray, List.set_cons_zero, List.set_cons_succ])
      | (refine calm_plain (by rfl) (by rfl) ?_; apply Exists.intro; refine ⟨fun wc hC hD => ?_, ?_⟩; (focus (clear hD; obtain ⟨b0, b1⟩ := box2 (hC.blk _ List.mem_cons_self); clear hC; go_simp; first | done | with_reducible rfl)); try simp only [Act.put, List.setIfInBounds_toArray, List.set_cons_zero, List.set_cons_succ]))
    refine calm_call _ _ (by rfl) (by rfl) ?_ ?_
    focus
      apply Exists.intro
      apply Exists.intro
      refine ⟨fun wc hC hD => ?_, fun wc hC hD => ?_⟩
      focus (clear hD; obtain ⟨b0, b1⟩ := box2 (hC.blk _ List.mem_cons_self); clear hC; go_simp; first | done | with_reducible exact ⟨rfl, rfl⟩ | with_reducible rfl)
      clear hD
      with_reducible refine (impl_joined (rowBy itemBy u.X) (rowBy idBy u.H) _ (by omega) (by omega)).mono ?_
      rintro e wx ⟨rfl, hb⟩
      exact ⟨_, rfl, hb, rfl, trivial⟩
    rintro _ rfl
    try simp only [Act.put, List.setIfInBounds_toArray, List.set_cons_zero, List.set_cons_succ]
    repeat (first
      | (refine calm_skip (by rfl) ?_; try simp only [Act.put, List.setIfInBounds_toArray, List.set_cons_zero, List.set_cons_succ])
      | (refine calm_plain (by rfl) (by rfl) ?_; apply Exists.intro; refine ⟨fun wc hC hD => ?_, ?_⟩; (focus (clear hD; obtain ⟨b0, b1⟩ := box2 (hC.blk _ List.mem_cons_self); clear hC; go_simp; first | done | with_reducible rfl)); try simp only [Act.put, List.setIfInBounds_toArray, List.set_cons_zero, List.set_cons_succ]))
    refine calm_call _ _ (by rfl) (by rfl) ?_ ?_
    focus
      apply Exists.intro
      apply Exists.intro
      refine ⟨fun wc hC hD => ?_, fun wc hC hD => ?_⟩
      focus (clear hD; obtain ⟨b0, b1⟩ := box2 (hC.blk _ List.mem_cons_self); clear hC; go_simp; first | done | with_reducible exact ⟨rfl, rfl⟩ | with_reducible rfl)
      clear hD
      with_reducible refine (impl_seal (updBody u) _ (by unfold updBody; rw [catB_size]; omega)).mono ?_
      rintro e wx ⟨rfl, hb⟩
      exact ⟨_, rfl, hb, rfl, trivial⟩
    rintro _ rfl
    try simp only [Act.put, List.setIfInBounds_toArray, List.set_cons_zero, List.set_cons_succ]
    repeat (first
      | (refine calm_skip (by rfl) ?_; try simp only [Act.put, List.setIfInBounds_toArray, List.set_cons_zero, List.set_cons_succ])
      | (refine calm_plain (by rfl) (by rfl) ?_; apply Exists.intro; refine ⟨fun wc hC hD => ?_, ?_⟩; (focus (clear hD; obtain ⟨b0, b1⟩ := box2 (hC.blk _ List.mem_cons_self); clear hC; go_simp; first | done | with_reducible rfl)); try simp only [Act.put, List.setIfInBounds_toArray, List.set_cons_zero, List.set_cons_succ]))
    refine calm_end ?_
    intro w7 hL7 hF7
    clear hF7
    replace HL := Lib.hid hL7
    clear hL7
    go_wp2
    go_ret
    exact ⟨rfl, HL.out.bel⟩

end Go.Proofs.Ytaggmcdfggmlhaa
