/-
  Contract of the program's areaOn.
-/
import Derived.Test.YthchlfllcnlmjaaGreatDoorTextFrom
import Derived.Test.YthchlfllcnlmjaaGreatDoorHeadOf
import Derived.Test.YthchlfllcnlmjaaGreatDoorCodes
import Derived.Test.YthchlfllcnlmjaaGreatDoorUnseal
import Derived.Test.YthchlfllcnlmjaaGreatDoorBase2
namespace Go.Proofs.YthchlfllcnlmjaaGreatDoor
open Go.ChangeShapes Go.WideShapes Go.ChangeAt Go.RowKit

theorem headP_some {t : ByteArray} {g s n : Int} (h : headP t = some (g, s, n)) : ∃ e, threeOf t = some (g, s, n, e) ∧ e = t.size ∧ 0 ≤ g ∧ 0 ≤ s ∧ s ≤ 1 ∧ 0 ≤ n := by
  cases h3 : threeOf t with
  | none => rw [headP_none h3] at h; cases h
  | some x =>
    obtain ⟨g', s', n', e⟩ := x
    by_cases hc : e = t.size ∧ 0 ≤ g' ∧ 0 ≤ s' ∧ s' ≤ 1 ∧ 0 ≤ n'
    · rw [headP_yes h3 hc] at h
      simp only [Option.some.injEq, Prod.mk.injEq] at h
      obtain ⟨rfl, rfl, rfl⟩ := h
      exact ⟨e, rfl, hc⟩
    · rw [headP_no h3 hc] at h; cases h
theorem seen_headP_none {r : ByteArray} {room : Nat} (h4 : ¬ r.size < 4) (h5 : sumB (bodyB r) = tailB r) (h : headP (bodyB r) = none) : seenH r room = (0, 0, 0, 3) := by
  cases h3 : threeOf (bodyB r) with
  | none => exact seen_none h4 h5 h3
  | some x =>
    obtain ⟨g', s', n', e⟩ := x
    refine seen_not h4 h5 h3 (fun hc => ?_)
    rw [headP_yes h3 ⟨hc.1, hc.2.1, hc.2.2.1, hc.2.2.2.1, hc.2.2.2.2.1⟩] at h
    cases h
theorem seen_headP_some {r : ByteArray} {room : Nat} {g s n : Int} (h4 : ¬ r.size < 4) (h5 : sumB (bodyB r) = tailB r) (h : headP (bodyB r) = some (g, s, n)) (hn : n ≤ room) : seenH r room = (g, s, n, 0) := by
  obtain ⟨e, h3, h6, h7, h8, h9, h10⟩ := headP_some h
  exact seen_some h4 h5 h3 ⟨h6, h7, h8, h9, h10, hn⟩
theorem seen_headP_far {r : ByteArray} {room : Nat} {g s n : Int} (h4 : ¬ r.size < 4) (h5 : sumB (bodyB r) = tailB r) (h : headP (bodyB r) = some (g, s, n)) (hn : ¬ n ≤ room) : seenH r room = (0, 0, 0, 3) := by
  obtain ⟨e, h3, h6, h7, h8, h9, h10⟩ := headP_some h
  exact seen_not h4 h5 h3 (fun hc => hn hc.2.2.2.2.2)

/-- What areaOn hands back of a disk: a head, its text, and no error; or an error, of which areaFault tells the code. -/
def OnRet (a0 a1 a2 a3 : Addr) (w : World) (d : Dk) (e : Ending) (w' : World) : Prop := Below w.heap.size w w' ∧
  ((∃ (g s n : Int) (t : ByteArray), e = .returned (.tuple #[.agg #[.int .i64 g, .int .i64 s, .int .i64 n], .string t, .nilIface]) ∧ Right d ∧ seenH (readT d 0) (64 * halfN d) = (g, s, n, 0) ∧ readAo d = ⟨d, t, g, 0⟩) ∨
   (∃ (x : TypeId) (y : Value) (c : Int), c ≠ 0 ∧ e = .returned (.tuple #[.agg #[.int .i64 0, .int .i64 0, .int .i64 0], .string ⟨#[]⟩, .iface x y]) ∧ readAo d = illAo c ∧ ∀ W, Sents W a0 a1 a2 a3 → ErrVar W → Calls Tryz.prog 36 #[.iface x y] W (OwnsAo W (illAo c))))

theorem textP_cases (d : Dk) (f n : Nat) : (textP d f n = some (gotB d f n (partsN n)) ∧ ∀ i < partsN n, fullAt d f n i) ∨ (textP d f n = none ∧ ∃ i, i < partsN n ∧ ¬ fullAt d f n i) := by
  classical
  by_cases h : ∀ i < partsN n, fullAt d f n i
  · exact .inl ⟨textP_yes h, h⟩
  · have : ∃ i, i < partsN n ∧ ¬ fullAt d f n i := by
      apply Classical.byContradiction
      intro h'
      exact h fun i hi => Classical.byContradiction fun hf => h' ⟨i, hi, hf⟩
    obtain ⟨i, hi, hf⟩ := this
    exact .inr ⟨textP_no hi hf, i, hi, hf⟩
theorem impl_unseal_cases (r : ByteArray) (hz : r.size ≤ 64) :
    (∃ c : Int, (c = 4 ∨ c = 5) ∧ (∀ room, seenH r room = (0, 0, 0, c)) ∧ ∀ W, Calls Tryz.prog 75 #[.string r] W fun e w' => e = .returned (textOut ⟨#[]⟩ 0 c) ∧ Below W.heap.size W w') ∨
    (¬ r.size < 4 ∧ sumB (bodyB r) = tailB r ∧ ∀ W, Calls Tryz.prog 75 #[.string r] W fun e w' => e = .returned (textOut (bodyB r) 0 0) ∧ Below W.heap.size W w') := by
  by_cases h4 : r.size < 4
  · exact .inl ⟨4, .inl rfl, fun room => seen_short h4, fun W => impl_unseal_short r W h4⟩
  · by_cases h5 : sumB (bodyB r) = tailB r
    · refine .inr ⟨h4, h5, fun W => ?_⟩
      have := impl_unseal r W (by omega) (by omega)
      unfold unsealV at this
      rwa [if_pos h5] at this
    · refine .inl ⟨5, .inr rfl, fun room => seen_sum h4 h5, fun W => ?_⟩
      have := impl_unseal r W (by omega) (by omega)
      unfold unsealV at this
      rwa [if_neg h5] at this

set_option maxRecDepth 100000 in
set_option maxHeartbeats 4000000 in
theorem impl_areaon {a0 a1 a2 a3 : Addr} (v : Value) (d : Dk) (w : World) (hv : DkAt w w.heap.size v d) (hd : Small d) (hs : Sents w a0 a1 a2 a3) (he : ErrVar w) :
    Calls Tryz.prog 35 #[v] w (OnRet a0 a1 a2 a3 w d) := by
  obtain ⟨vs, vp, rfl, hs', hp⟩ := hv
  obtain ⟨A1, c1, rfl⟩ := hs'.form
  obtain ⟨A2, c2, rfl⟩ := hp.form
  have HL := Lib.hid (led_two w (.cells #[.slice A1 d.S.length c1, .slice A2 d.P.length c2] 26) (.cells #[.int .i64 0, .int .i64 0, .int .i64 0] 58) (d := d) ⟨_, _, rfl, hs', hp⟩)
  have HSM := Lib.hid hd; have HS := Lib.hid hs; have HV := Lib.hid he
  have hd1 := hd.1; have hd2 := hd.2.2.1
  clear hs' hp hd hs he
  by_cases hR : Right d
  · have HRR := Lib.hid hR
    clear hR
    have HN := Lib.hid (show d.S.length ≤ 64 from HRR.out.2.1)
    go_enter Tryz.func35, Tryz.ntmps35
    go_wp2_with fail
    refine (impl_right_yes _ d _ (HL.out.at_ List.mem_cons_self) (by omega) (by omega) HRR.out).mono ?_
    rintro e w1 ⟨rfl, hb⟩
    replace HL := Lib.hid (HL.out.lift hb)
    clear hb
    obtain ⟨x0, x1, hx⟩ := HL.out.b2 (List.mem_cons_of_mem _ List.mem_cons_self)
    go_wp2_with fail
    refine (impl_medium _ d _ (HL.out.at_ List.mem_cons_self) HSM.out).mono ?_
    rintro e w3 ⟨m, rfl, hm, hb⟩
    replace HL := Lib.hid (HL.out.lift hb)
    have HM := Lib.hid hm
    obtain ⟨r, hr⟩ : ∃ x, x = readT d 0 := ⟨_, rfl⟩
    have HMR := Lib.hid (fun W (h : Below w3.heap.size w3 W) => (show Calls Tryz.prog 74 #[m, .int .i64 0] W fun e w' => e = .returned (.string (readT d 0)) ∧ Below W.heap.size W w' from impl_medread m d 0 W _ (med_lift HM.out h) HRR.out.1 (by omega)))
    have HRZ := Lib.hid (readT_size HRR.out 0 HRR.out.1)
    rw [← hr] at HMR HRZ
    have HR := Lib.hid hr
    clear hb x0 x1 hx hm hr
    have HB3 := Lib.hid HL.out.bel
    replace HL := Lib.hid (show Led w3 w3 _ _ _ from ⟨Below.refl _ _, HL.out.blk, HL.out.ats, HL.out.own⟩)
    go_wp2_with fail
    refine (HMR.out _ HL.out.bel).mono ?_
    rintro e w4 ⟨rfl, hb⟩
    replace HL := Lib.hid (HL.out.lift hb)
    clear hb
    rcases impl_unseal_cases r HRZ.out with ⟨c, hc, hse, hu⟩ | ⟨h4, h5, hu⟩
    · have HU := Lib.hid hu
      have HSE := Lib.hid (hse (64 * halfN d))
      rw [HR.out] at HSE
      have HE := Lib.hid (readAo_ill HRR.out HSE.out (by omega))
      have HC := Lib.hid (show c ≠ 0 by omega)
      have hcb : (c != 0) = true := by simp; omega
      have hcc : (c == 0) = false := by simp; omega
      clear hu hse hc
      go_wp2_with fail
      refine (HU.out _).mono ?_
      rintro e w5 ⟨rfl, hb⟩
      unfold textOut
      have hz5 := block_lt ((HL.out.lift hb).blk _ List.mem_cons_self)
      have hne5 : ¬ w5.heap.size = w.heap.size + 1 := by omega
      have hne5' : ¬ w.heap.size + 1 = w5.heap.size := by omega
      have HZ := Lib.hid ((HL.out.lift hb).blk _ List.mem_cons_self)
      obtain ⟨z0, z1, z2⟩ := box3 HZ.out
      obtain ⟨k0, k1, k2, _⟩ := box_frozen HZ.out
      have HBF := Lib.hid (HB3.out.trans ((HL.out.lift hb).bel.mono HB3.out.size))
      replace HL := Lib.hid ((HL.out.lift hb).alloc (.cells #[.string ⟨#[]⟩, .int .i64 0, .int .i64 c] 103))
      clear hb
      obtain ⟨y0, y1, y2, yl⟩ := HL.out.b3 List.mem_cons_self
      go_wp2
      go_region
      all_goals
        go_wp2
        refine bodyPost_ret (v := .tuple #[.agg #[.int .i64 0, .int .i64 0, .int .i64 0], .string ⟨#[]⟩, .iface 106 (.agg #[.int .i64 c])]) (by simp [results, Tryz.results35, go_sem, z0, z1, z2, hz5]) rfl ⟨?_, .inr ⟨_, _, c, HC.out, rfl, HE.out, fun W hS hV => fault_code c W hS hV⟩⟩
        repeat (first | refine Below.setCell ?_ (by simp only; omega) _ | refine Below.drew ?_ | refine Below.alloc ?_ (by first | exact Nat.le_refl _ | (simp only [World.size_alloc]; omega) | (simp; omega)) _)
        exact HBF.out
    · have HU := Lib.hid hu
      clear hu
      obtain ⟨t, htb⟩ : ∃ x, x = bodyB r := ⟨_, rfl⟩
      have HTZ := Lib.hid (show t.size ≤ 64 by have h1 := bodyB_size r; have h2 := HRZ.out; rw [htb]; omega)
      have HHO := Lib.hid (fun W (h : Below w.heap.size w W) => impl_headof t a1 W HTZ.out (HS.out.s1.lift h))
      rw [← htb] at HU
      have H4 := Lib.hid h4; have H5 := Lib.hid h5
      clear h4 h5
      go_wp2_with fail
      refine (HU.out _).mono ?_
      rintro e w5 ⟨rfl, hb⟩
      unfold textOut
      replace HL := Lib.hid ((HL.out.lift hb).alloc (.cells #[.string t, .int .i64 0, .int .i64 0] 103))
      clear hb
      obtain ⟨y0, y1, y2, yl⟩ := HL.out.b3 List.mem_cons_self
      have HBF := Lib.hid (HB3.out.trans (HL.out.bel.mono HB3.out.size))
      cases hP : headP t with
      | none =>
        rw [hP] at HHO
        have HSE := Lib.hid (seen_headP_none (room := 64 * halfN d) H4.out H5.out (by rw [← htb]; exact hP))
        rw [HR.out] at HSE
        have HE := Lib.hid (readAo_ill HRR.out HSE.out (by omega))
        clear hP htb
        go_wp2_with fail
        refine (HHO.out _ HBF.out).mono ?_
        rintro e w6 ⟨rfl, hb⟩
        unfold headRet
        replace HL := Lib.hid (HL.out.lift hb)
        clear hb y0 y1 y2 yl HBF
        have HZ := Lib.hid (HL.out.blk _ (List.mem_cons_of_mem _ List.mem_cons_self))
        obtain ⟨z0, z1, z2⟩ := box3 HZ.out
        obtain ⟨k0, k1, k2, _⟩ := box_frozen HZ.out
        have hz := block_lt HZ.out
        have HBF := Lib.hid (HB3.out.trans (HL.out.bel.mono HB3.out.size))
        go_wp2
        refine bodyPost_ret (v := .tuple #[.agg #[.int .i64 0, .int .i64 0, .int .i64 0], .string ⟨#[]⟩, .iface 179 (.pointer (some a1))]) (by simp [results, Tryz.results35, go_sem, z0, z1, z2, hz]) rfl ⟨?_, .inr ⟨_, _, 3, (by decide), rfl, HE.out, fun W hS _ => fault_nohead W hS⟩⟩
        repeat (first | refine Below.setCell ?_ (by simp only; omega) _ | refine Below.drew ?_ | refine Below.alloc ?_ (by first | exact Nat.le_refl _ | (simp only [World.size_alloc]; omega) | (simp; omega)) _)
        exact HBF.out
      | some x =>
        obtain ⟨g, s, n⟩ := x
        rw [hP] at HHO
        have HPS := Lib.hid (headP_some hP)
        obtain ⟨_, _, _, hg0, hs0, hs1, hn0⟩ := HPS.out
        obtain ⟨s, rfl⟩ := Int.eq_ofNat_of_zero_le hs0
        obtain ⟨n, rfl⟩ := Int.eq_ofNat_of_zero_le hn0
        have HPP := Lib.hid (show headP (bodyB r) = some (g, (s : Int), (n : Int)) by rw [← htb]; exact hP)
        clear hP htb
        obtain ⟨rm, hrm⟩ : ∃ x : Int, x = (roomN d : Int) := ⟨_, rfl⟩
        have HROOM := Lib.hid (fun W (h : DkAt W W.heap.size (.agg #[.slice A1 d.S.length c1, .slice A2 d.P.length c2]) d) => impl_room _ d W h (by omega) (by omega))
        rw [← hrm] at HROOM
        have hrm2 : rm = ((64 * halfN d : Nat) : Int) := by rw [hrm, roomN_yes HRR.out]
        have HRM := Lib.hid hrm2
        clear hrm hrm2
        go_wp2_with fail
        refine (HHO.out _ HBF.out).mono ?_
        rintro e w6 ⟨rfl, hb⟩
        unfold headRet
        replace HL := Lib.hid ((HL.out.lift hb).alloc (.cells #[.int .i64 g, .int .i64 (s : Int), .int .i64 (n : Int)] 58))
        clear hb y0 y1 y2 yl HBF
        by_cases hnr : (n : Int) ≤ rm
        · have hnr' : ¬ rm < (n : Int) := by omega
          have hn : n ≤ 64 * halfN d := by have := HRM.out; omega
          have hn31 : n ≤ 2016 := by have := HN.out; unfold halfN at hn; omega
          have HSE := Lib.hid (seen_headP_some (room := 64 * halfN d) H4.out H5.out HPP.out (by omega))
          rw [HR.out] at HSE
          obtain ⟨f, hfe⟩ : ∃ f, f = firstN d s := ⟨_, rfl⟩
          have HOK := Lib.hid (readAo_ok HRR.out HSE.out)
          have HSUM := Lib.hid (fun i => readAo_sum (i := i) HRR.out HSE.out)
          have HFL := Lib.hid (fun i => first_lt (i := i) HRR.out (by omega : s ≤ 1) hn)
          have HFI := Lib.hid (fun W => impl_first A1 (.slice A2 d.P.length c2) c1 s d W HRR.out.1 HRR.out.2.1 (by omega))
          rw [← hfe] at HOK HSUM HFL HFI
          have HTF := Lib.hid (fun W (h : Below w3.heap.size w3 W) => impl_textfrom m d _ f n a2 W (med_lift HM.out h) HRR.out HFL.out hn31 (HS.out.s2.lift (HB3.out.trans (h.mono HB3.out.size))))
          clear hfe
          go_upto_region 10 with fail
          refine wp_region_calm_led (told [(3, fun u => u = .int .i64 rm)]) (by kernel_rfl) (by kernel_rfl) (told_mono _) HL.out ?_
          repeat (first
            | (refine calm_skip (by rfl) ?_; try simp only [Act.put, List.setIfInBounds_toArray, List.set_cons_zero, List.set_cons_succ])
            | (refine calm_plain (by rfl) (by rfl) ?_; apply Exists.intro; refine ⟨fun wc hC hD => ?_, ?_⟩; (focus (clear hD; have hb2 := hC.b3 List.mem_cons_self; obtain ⟨q0, q1, q2, ql⟩ := hb2; obtain ⟨y0, y1, yl⟩ := hC.b2 (List.mem_cons_of_mem _ (List.mem_cons_of_mem _ (List.mem_cons_of_mem _ List.mem_cons_self))); clear hC; go_simp; first | done | with_reducible rfl)); try simp only [Act.put, List.setIfInBounds_toArray, List.set_cons_zero, List.set_cons_succ]))
          refine calm_call _ _ (by rfl) (by rfl) ?_ ?_
          focus
            apply Exists.intro
            apply Exists.intro
            refine ⟨fun wc hC hD => ?_, fun wc hC hD => ?_⟩
            focus (clear hD; have hb2 := hC.b3 List.mem_cons_self; obtain ⟨q0, q1, q2, ql⟩ := hb2; obtain ⟨y0, y1, yl⟩ := hC.b2 (List.mem_cons_of_mem _ (List.mem_cons_of_mem _ (List.mem_cons_of_mem _ List.mem_cons_self))); clear hC; go_simp; first | done | with_reducible exact ⟨rfl, rfl⟩)
            clear hD
            with_reducible refine (HROOM.out _ (hC.at_ List.mem_cons_self)).mono ?_
            rintro e wx ⟨rfl, hb⟩
            exact ⟨_, rfl, hb, rfl, trivial⟩
          rintro _ rfl
          try simp only [Act.put, List.setIfInBounds_toArray, List.set_cons_zero, List.set_cons_succ]
          repeat (first
            | (refine calm_skip (by rfl) ?_; try simp only [Act.put, List.setIfInBounds_toArray, List.set_cons_zero, List.set_cons_succ])
            | (refine calm_plain (by rfl) (by rfl) ?_; apply Exists.intro; refine ⟨fun wc hC hD => ?_, ?_⟩; (focus (clear hD; have hb2 := hC.b3 List.mem_cons_self; obtain ⟨q0, q1, q2, ql⟩ := hb2; obtain ⟨y0, y1, yl⟩ := hC.b2 (List.mem_cons_of_mem _ (List.mem_cons_of_mem _ (List.mem_cons_of_mem _ List.mem_cons_self))); clear hC; go_simp; first | done | with_reducible rfl)); try simp only [Act.put, List.setIfInBounds_toArray, List.set_cons_zero, List.set_cons_succ]))
          refine calm_end ?_
          intro w7 hL7 hF7
          clear hF7
          replace HL := Lib.hid hL7
          clear hL7
          rcases textP_cases d f n with ⟨hT, hfull⟩ | ⟨hT, i, hi, hfull⟩
          · rw [hT] at HTF
            have HE := Lib.hid (HOK.out hfull)
            obtain ⟨tt, htt⟩ : ∃ x, x = gotB d f n (partsN n) := ⟨_, rfl⟩
            rw [← htt] at HTF HE
            clear hT hfull htt
            unfold textRet at HTF
            go_wp2
            go_upto_region 12 with fail
            refine wp_region_calm_led (told [(4, fun u => u = .int .i64 (f : Int)), (7, fun u => u = .tuple #[.string tt, .nilIface])]) (by kernel_rfl) (by kernel_rfl) (told_mono _) HL.out ?_
            repeat (first
              | (refine calm_skip (by rfl) ?_; try simp only [Act.put, List.setIfInBounds_toArray, List.set_cons_zero, List.set_cons_succ])
              | (refine calm_plain (by rfl) (by rfl) ?_; apply Exists.intro; refine ⟨fun wc hC hD => ?_, ?_⟩; (focus (clear hD; have hb2 := hC.b3 List.mem_cons_self; obtain ⟨q0, q1, q2, ql⟩ := hb2; obtain ⟨y0, y1, yl⟩ := hC.b2 (List.mem_cons_of_mem _ (List.mem_cons_of_mem _ (List.mem_cons_of_mem _ List.mem_cons_self))); clear hC; go_simp; first | done | with_reducible rfl)); try simp only [Act.put, List.setIfInBounds_toArray, List.set_cons_zero, List.set_cons_succ]))
            refine calm_call _ _ (by rfl) (by rfl) ?_ ?_
            focus
              apply Exists.intro
              apply Exists.intro
              refine ⟨fun wc hC hD => ?_, fun wc hC hD => ?_⟩
              focus (clear hD; have hb2 := hC.b3 List.mem_cons_self; obtain ⟨q0, q1, q2, ql⟩ := hb2; obtain ⟨y0, y1, yl⟩ := hC.b2 (List.mem_cons_of_mem _ (List.mem_cons_of_mem _ (List.mem_cons_of_mem _ List.mem_cons_self))); clear hC; go_simp; first | done | with_reducible exact ⟨rfl, rfl⟩)
              clear hD
              with_reducible refine (HFI.out _).mono ?_
              rintro e wx ⟨rfl, hb⟩
              exact ⟨_, rfl, hb, rfl, trivial⟩
            rintro _ rfl
            try simp only [Act.put, List.setIfInBounds_toArray, List.set_cons_zero, List.set_cons_succ]
            repeat (first
              | (refine calm_skip (by rfl) ?_; try simp only [Act.put, List.setIfInBounds_toArray, List.set_cons_zero, List.set_cons_succ])
              | (refine calm_plain (by rfl) (by rfl) ?_; apply Exists.intro; refine ⟨fun wc hC hD => ?_, ?_⟩; (focus (clear hD; have hb2 := hC.b3 List.mem_cons_self; obtain ⟨q0, q1, q2, ql⟩ := hb2; obtain ⟨y0, y1, yl⟩ := hC.b2 (List.mem_cons_of_mem _ (List.mem_cons_of_mem _ (List.mem_cons_of_mem _ List.mem_cons_self))); clear hC; go_simp; first | done | with_reducible rfl)); try simp only [Act.put, List.setIfInBounds_toArray, List.set_cons_zero, List.set_cons_succ]))
            refine calm_call _ _ (by rfl) (by rfl) ?_ ?_
            focus
              apply Exists.intro
              apply Exists.intro
              refine ⟨fun wc hC hD => ?_, fun wc hC hD => ?_⟩
              focus (clear hD; have hb2 := hC.b3 List.mem_cons_self; obtain ⟨q0, q1, q2, ql⟩ := hb2; obtain ⟨y0, y1, yl⟩ := hC.b2 (List.mem_cons_of_mem _ (List.mem_cons_of_mem _ (List.mem_cons_of_mem _ List.mem_cons_self))); clear hC; go_simp; first | done | with_reducible exact ⟨rfl, rfl⟩)
              clear hD
              with_reducible refine (HTF.out _ (hC.bel)).mono ?_
              rintro e wx ⟨rfl, hb⟩
              exact ⟨_, rfl, hb, rfl, trivial⟩
            rintro _ rfl
            try simp only [Act.put, List.setIfInBounds_toArray, List.set_cons_zero, List.set_cons_succ]
            repeat (first
              | (refine calm_skip (by rfl) ?_; try simp only [Act.put, List.setIfInBounds_toArray, List.set_cons_zero, List.set_cons_succ])
              | (refine calm_plain (by rfl) (by rfl) ?_; apply Exists.intro; refine ⟨fun wc hC hD => ?_, ?_⟩; (focus (clear hD; have hb2 := hC.b3 List.mem_cons_self; obtain ⟨q0, q1, q2, ql⟩ := hb2; obtain ⟨y0, y1, yl⟩ := hC.b2 (List.mem_cons_of_mem _ (List.mem_cons_of_mem _ (List.mem_cons_of_mem _ List.mem_cons_self))); clear hC; go_simp; first | done | with_reducible rfl)); try simp only [Act.put, List.setIfInBounds_toArray, List.set_cons_zero, List.set_cons_succ]))
            refine calm_end ?_
            intro w8 hL7 hF7
            clear hF7
            replace HL := Lib.hid hL7
            clear hL7
            obtain ⟨q0, q1, q2, ql⟩ := HL.out.b3 List.mem_cons_self
            have HZ := Lib.hid (HL.out.blk _ (List.mem_cons_of_mem _ (List.mem_cons_of_mem _ List.mem_cons_self)))
            obtain ⟨z0, z1, z2⟩ := box3 HZ.out
            obtain ⟨k0, k1, k2, _⟩ := box_frozen HZ.out
            have hz := block_lt HZ.out
            have HBF := Lib.hid (HB3.out.trans (HL.out.bel.mono HB3.out.size))
            go_wp2
            refine bodyPost_ret (v := .tuple #[.agg #[.int .i64 g, .int .i64 (s : Int), .int .i64 (n : Int)], .string tt, .nilIface]) (by simp [results, Tryz.results35, go_sem, z0, z1, z2]) rfl ⟨?_, .inl ⟨g, (s : Int), (n : Int), tt, rfl, HRR.out, HSE.out, HE.out⟩⟩
            repeat (first | refine Below.setCell ?_ (by simp only; omega) _ | refine Below.drew ?_ | refine Below.alloc ?_ (by first | exact Nat.le_refl _ | (simp only [World.size_alloc]; omega) | (simp; omega)) _)
            exact HBF.out
          · rw [hT] at HTF
            have HE := Lib.hid (HSUM.out i hi hfull)
            clear hT hi hfull
            unfold textRet at HTF
            go_wp2
            go_upto_region 12 with fail
            refine wp_region_calm_led (told [(4, fun u => u = .int .i64 (f : Int)), (7, fun u => u = .tuple #[.string ⟨#[]⟩, .iface 179 (.pointer (some a2))])]) (by kernel_rfl) (by kernel_rfl) (told_mono _) HL.out ?_
            repeat (first
              | (refine calm_skip (by rfl) ?_; try simp only [Act.put, List.setIfInBounds_toArray, List.set_cons_zero, List.set_cons_succ])
              | (refine calm_plain (by rfl) (by rfl) ?_; apply Exists.intro; refine ⟨fun wc hC hD => ?_, ?_⟩; (focus (clear hD; have hb2 := hC.b3 List.mem_cons_self; obtain ⟨q0, q1, q2, ql⟩ := hb2; obtain ⟨y0, y1, yl⟩ := hC.b2 (List.mem_cons_of_mem _ (List.mem_cons_of_mem _ (List.mem_cons_of_mem _ List.mem_cons_self))); clear hC; go_simp; first | done | with_reducible rfl)); try simp only [Act.put, List.setIfInBounds_toArray, List.set_cons_zero, List.set_cons_succ]))
            refine calm_call _ _ (by rfl) (by rfl) ?_ ?_
            focus
              apply Exists.intro
              apply Exists.intro
              refine ⟨fun wc hC hD => ?_, fun wc hC hD => ?_⟩
              focus (clear hD; have hb2 := hC.b3 List.mem_cons_self; obtain ⟨q0, q1, q2, ql⟩ := hb2; obtain ⟨y0, y1, yl⟩ := hC.b2 (List.mem_cons_of_mem _ (List.mem_cons_of_mem _ (List.mem_cons_of_mem _ List.mem_cons_self))); clear hC; go_simp; first | done | with_reducible exact ⟨rfl, rfl⟩)
              clear hD
              with_reducible refine (HFI.out _).mono ?_
              rintro e wx ⟨rfl, hb⟩
              exact ⟨_, rfl, hb, rfl, trivial⟩
            rintro _ rfl
            try simp only [Act.put, List.setIfInBounds_toArray, List.set_cons_zero, List.set_cons_succ]
            repeat (first
              | (refine calm_skip (by rfl) ?_; try simp only [Act.put, List.setIfInBounds_toArray, List.set_cons_zero, List.set_cons_succ])
              | (refine calm_plain (by rfl) (by rfl) ?_; apply Exists.intro; refine ⟨fun wc hC hD => ?_, ?_⟩; (focus (clear hD; have hb2 := hC.b3 List.mem_cons_self; obtain ⟨q0, q1, q2, ql⟩ := hb2; obtain ⟨y0, y1, yl⟩ := hC.b2 (List.mem_cons_of_mem _ (List.mem_cons_of_mem _ (List.mem_cons_of_mem _ List.mem_cons_self))); clear hC; go_simp; first | done | with_reducible rfl)); try simp only [Act.put, List.setIfInBounds_toArray, List.set_cons_zero, List.set_cons_succ]))
            refine calm_call _ _ (by rfl) (by rfl) ?_ ?_
            focus
              apply Exists.intro
              apply Exists.intro
              refine ⟨fun wc hC hD => ?_, fun wc hC hD => ?_⟩
              focus (clear hD; have hb2 := hC.b3 List.mem_cons_self; obtain ⟨q0, q1, q2, ql⟩ := hb2; obtain ⟨y0, y1, yl⟩ := hC.b2 (List.mem_cons_of_mem _ (List.mem_cons_of_mem _ (List.mem_cons_of_mem _ List.mem_cons_self))); clear hC; go_simp; first | done | with_reducible exact ⟨rfl, rfl⟩)
              clear hD
              with_reducible refine (HTF.out _ (hC.bel)).mono ?_
              rintro e wx ⟨rfl, hb⟩
              exact ⟨_, rfl, hb, rfl, trivial⟩
            rintro _ rfl
            try simp only [Act.put, List.setIfInBounds_toArray, List.set_cons_zero, List.set_cons_succ]
            repeat (first
              | (refine calm_skip (by rfl) ?_; try simp only [Act.put, List.setIfInBounds_toArray, List.set_cons_zero, List.set_cons_succ])
              | (refine calm_plain (by rfl) (by rfl) ?_; apply Exists.intro; refine ⟨fun wc hC hD => ?_, ?_⟩; (focus (clear hD; have hb2 := hC.b3 List.mem_cons_self; obtain ⟨q0, q1, q2, ql⟩ := hb2; obtain ⟨y0, y1, yl⟩ := hC.b2 (List.mem_cons_of_mem _ (List.mem_cons_of_mem _ (List.mem_cons_of_mem _ List.mem_cons_self))); clear hC; go_simp; first | done | with_reducible rfl)); try simp only [Act.put, List.setIfInBounds_toArray, List.set_cons_zero, List.set_cons_succ]))
            refine calm_end ?_
            intro w8 hL7 hF7
            clear hF7
            replace HL := Lib.hid hL7
            clear hL7
            have HZ := Lib.hid (HL.out.blk _ (List.mem_cons_of_mem _ (List.mem_cons_of_mem _ List.mem_cons_self)))
            obtain ⟨z0, z1, z2⟩ := box3 HZ.out
            obtain ⟨k0, k1, k2, _⟩ := box_frozen HZ.out
            have hz := block_lt HZ.out
            have HBF := Lib.hid (HB3.out.trans (HL.out.bel.mono HB3.out.size))
            go_wp2
            refine bodyPost_ret (v := .tuple #[.agg #[.int .i64 0, .int .i64 0, .int .i64 0], .string ⟨#[]⟩, .iface 179 (.pointer (some a2))]) (by simp [results, Tryz.results35, go_sem, z0, z1, z2]) rfl ⟨?_, .inr ⟨_, _, 5, (by decide), rfl, HE.out, fun W hS _ => fault_fewer W hS⟩⟩
            repeat (first | refine Below.setCell ?_ (by simp only; omega) _ | refine Below.drew ?_ | refine Below.alloc ?_ (by first | exact Nat.le_refl _ | (simp only [World.size_alloc]; omega) | (simp; omega)) _)
            exact HBF.out
        · have hnr' : rm < (n : Int) := by omega
          have HSE := Lib.hid (seen_headP_far (room := 64 * halfN d) H4.out H5.out HPP.out (by have := HRM.out; omega))
          rw [HR.out] at HSE
          have HE := Lib.hid (readAo_ill HRR.out HSE.out (by omega))
          clear hnr
          go_upto_region 10 with fail
          refine wp_region_calm_led (told [(3, fun u => u = .int .i64 rm)]) (by kernel_rfl) (by kernel_rfl) (told_mono _) HL.out ?_
          repeat (first
            | (refine calm_skip (by rfl) ?_; try simp only [Act.put, List.setIfInBounds_toArray, List.set_cons_zero, List.set_cons_succ])
            | (refine calm_plain (by rfl) (by rfl) ?_; apply Exists.intro; refine ⟨fun wc hC hD => ?_, ?_⟩; (focus (clear hD; have hb2 := hC.b3 List.mem_cons_self; obtain ⟨q0, q1, q2, ql⟩ := hb2; obtain ⟨y0, y1, yl⟩ := hC.b2 (List.mem_cons_of_mem _ (List.mem_cons_of_mem _ (List.mem_cons_of_mem _ List.mem_cons_self))); clear hC; go_simp; first | done | with_reducible rfl)); try simp only [Act.put, List.setIfInBounds_toArray, List.set_cons_zero, List.set_cons_succ]))
          refine calm_call _ _ (by rfl) (by rfl) ?_ ?_
          focus
            apply Exists.intro
            apply Exists.intro
            refine ⟨fun wc hC hD => ?_, fun wc hC hD => ?_⟩
            focus (clear hD; have hb2 := hC.b3 List.mem_cons_self; obtain ⟨q0, q1, q2, ql⟩ := hb2; obtain ⟨y0, y1, yl⟩ := hC.b2 (List.mem_cons_of_mem _ (List.mem_cons_of_mem _ (List.mem_cons_of_mem _ List.mem_cons_self))); clear hC; go_simp; first | done | with_reducible exact ⟨rfl, rfl⟩)
            clear hD
            with_reducible refine (HROOM.out _ (hC.at_ List.mem_cons_self)).mono ?_
            rintro e wx ⟨rfl, hb⟩
            exact ⟨_, rfl, hb, rfl, trivial⟩
          rintro _ rfl
          try simp only [Act.put, List.setIfInBounds_toArray, List.set_cons_zero, List.set_cons_succ]
          repeat (first
            | (refine calm_skip (by rfl) ?_; try simp only [Act.put, List.setIfInBounds_toArray, List.set_cons_zero, List.set_cons_succ])
            | (refine calm_plain (by rfl) (by rfl) ?_; apply Exists.intro; refine ⟨fun wc hC hD => ?_, ?_⟩; (focus (clear hD; have hb2 := hC.b3 List.mem_cons_self; obtain ⟨q0, q1, q2, ql⟩ := hb2; obtain ⟨y0, y1, yl⟩ := hC.b2 (List.mem_cons_of_mem _ (List.mem_cons_of_mem _ (List.mem_cons_of_mem _ List.mem_cons_self))); clear hC; go_simp; first | done | with_reducible rfl)); try simp only [Act.put, List.setIfInBounds_toArray, List.set_cons_zero, List.set_cons_succ]))
          refine calm_end ?_
          intro w7 hL7 hF7
          clear hF7
          replace HL := Lib.hid hL7
          clear hL7
          have HZ := Lib.hid (HL.out.blk _ (List.mem_cons_of_mem _ (List.mem_cons_of_mem _ List.mem_cons_self)))
          obtain ⟨z0, z1, z2⟩ := box3 HZ.out
          obtain ⟨k0, k1, k2, _⟩ := box_frozen HZ.out
          have hz := block_lt HZ.out
          have HBF := Lib.hid (HB3.out.trans (HL.out.bel.mono HB3.out.size))
          have hs1' := (HS.out.s1.lift HBF.out)
          have hc1 := hs1'.cell
          have hcl := hs1'.lt
          clear hs1'
          have hcl0 := HS.out.s1.lt
          have hne0 : ¬ w.heap.size + 1 = 2 := by omega
          have hne0' : ¬ 2 = w.heap.size + 1 := by omega
          go_wp2
          go_region
          all_goals
            go_wp2
            refine bodyPost_ret (v := .tuple #[.agg #[.int .i64 0, .int .i64 0, .int .i64 0], .string ⟨#[]⟩, .iface 179 (.pointer (some a1))]) (by simp [results, Tryz.results35, go_sem, z0, z1, z2]) rfl ⟨?_, .inr ⟨_, _, 3, (by decide), rfl, HE.out, fun W hS _ => fault_nohead W hS⟩⟩
            repeat (first | refine Below.setCell ?_ (by simp only; omega) _ | refine Below.drew ?_ | refine Below.alloc ?_ (by first | exact Nat.le_refl _ | (simp only [World.size_alloc]; omega) | (simp; omega)) _)
            exact HBF.out
  · have HE := Lib.hid (readAo_form hR)
    go_enter Tryz.func35, Tryz.ntmps35
    go_wp2_with fail
    refine (impl_right_no _ d _ (HL.out.at_ List.mem_cons_self) (by omega) (by omega) hR).mono ?_
    rintro e w1 ⟨rfl, hb⟩
    replace HL := Lib.hid (HL.out.lift hb)
    clear hb
    have HBF := Lib.hid HL.out.bel
    have HZ := Lib.hid (HL.out.blk _ List.mem_cons_self)
    obtain ⟨z0, z1, z2⟩ := box3 HZ.out
    obtain ⟨k0, k1, k2, _⟩ := box_frozen HZ.out
    have hz := block_lt HZ.out
    have hs1' := (HS.out.s0.lift HBF.out)
    have hc1 := hs1'.cell
    have hcl := hs1'.lt
    clear hs1'
    go_wp2
    go_region
    all_goals
      go_wp2
      refine bodyPost_ret (v := .tuple #[.agg #[.int .i64 0, .int .i64 0, .int .i64 0], .string ⟨#[]⟩, .iface 179 (.pointer (some a0))]) (by simp [results, Tryz.results35, go_sem, z0, z1, z2]) rfl ⟨?_, .inr ⟨_, _, 1, (by decide), rfl, HE.out, fun W hS _ => fault_notright W hS⟩⟩
      repeat (first | refine Below.setCell ?_ (by simp only; omega) _ | refine Below.drew ?_ | refine Below.alloc ?_ (by first | exact Nat.le_refl _ | (simp only [World.size_alloc]; omega) | (simp; omega)) _)
      exact HBF.out

end Go.Proofs.YthchlfllcnlmjaaGreatDoor
