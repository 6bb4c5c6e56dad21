/-
  Contract of the program's AreaPut.
-/
import Derived.Test.YthchlfllcnlmjaaGreatDoorPutM
namespace Go.Proofs.YthchlfllcnlmjaaGreatDoor
open Go.ChangeShapes Go.WideShapes Go.ChangeAt Go.RowKit

theorem putN_lt (t : ByteArray) (steps : Int) (pn : Nat) (hp : pn = partsN t.size) (k : Nat) : ((k : Int) < min steps ((pn : Int) + 3)) ↔ k < putN t steps := by
  subst hp
  unfold putN
  omega
theorem putN_le (t : ByteArray) (steps : Int) : putN t steps ≤ partsN t.size + 3 := by unfold putN; omega

set_option maxRecDepth 100000 in
set_option maxHeartbeats 4000000 in
theorem impl_aput {a0 a1 a2 a3 : Addr} (v : Value) (d : Dk) (t : ByteArray) (steps : Int) (w : World) (hv : DkAt w w.heap.size v d) (hd : Small d) (ht : t.size ≤ 1048576) (hs : Sents w a0 a1 a2 a3) (he : ErrVar w) :
    Calls Tryz.prog 11 #[v, .string t, .int .i64 steps] w (OwnsAo w (putAo d t steps)) := by
  obtain ⟨vs, vp, rfl, hs', hp⟩ := hv
  obtain ⟨A1, c1, rfl⟩ := hs'.form
  obtain ⟨A2, c2, rfl⟩ := hp.form
  have HL := Lib.hid (led_two w (.cells #[.slice A1 d.S.length c1, .slice A2 d.P.length c2] 26) (.cells #[.slice none 0 0, .slice none 0 0, .string ⟨#[]⟩, .int .i64 0, .int .i64 0] 31) (d := d) ⟨_, _, rfl, hs', hp⟩)
  have HSM := Lib.hid hd; have HS := Lib.hid hs; have HV := Lib.hid he
  clear hs' hp hd hs he
  go_enter Tryz.func11, Tryz.ntmps11
  by_cases h8 : 8000 < t.size
  · have h8' : 8000 < (t.size : Int) := by omega
    have HE := Lib.hid (putAo_size (d := d) (steps := steps) h8)
    go_wp2
    refine bodyPost_ret (v := .agg #[.slice none 0 0, .slice none 0 0, .string ⟨#[]⟩, .int .i64 0, .int .i64 2]) (by simp [results, Tryz.results11, go_sem]) rfl ?_
    rw [HE.out]
    refine ⟨_, rfl, ao_ill _ _ _, ?_⟩
    repeat (first | refine Below.setCell ?_ (by simp only; omega) _ | refine Below.alloc ?_ (by first | exact Nat.le_refl _ | (simp only [World.size_alloc]; omega) | (simp only [World.size_setCell]; omega)) _)
    exact Below.refl _ _
  · have h8' : ¬ 8000 < (t.size : Int) := by omega
    go_wp2_with fail
    refine (impl_nexthead _ d t _ (HL.out.at_ List.mem_cons_self) HSM.out (HS.out.lift HL.out.bel) (HV.out.lift HL.out.bel)).mono ?_
    rintro e w1 ⟨hb, hr⟩
    have hz1 := block_lt ((HL.out.lift hb).blk _ List.mem_cons_self)
    replace HL := Lib.hid (HL.out.lift hb)
    clear hb
    rcases hr with ⟨g, n, s, x, rfl, hR, hs1, hse, hE, hg0, hfit⟩ | ⟨x, y, c, rfl, hE, hF⟩
    · obtain ⟨s2, hs2⟩ : ∃ x : Nat, x = 1 - s := ⟨_, rfl⟩
      have HRUN := Lib.hid (putAo_run (t := t) (steps := steps) h8 hR hE hfit hse hs1)
      rw [← hs2] at HRUN
      obtain ⟨f, hf⟩ : ∃ x, x = firstN d s2 := ⟨_, rfl⟩
      rw [← hf] at HRUN
      rw [← hs2]
      have HFE := Lib.hid hf
      obtain ⟨g1, hg1⟩ : ∃ x : Int, x = g + 1 := ⟨_, rfl⟩
      rw [← hg1] at HRUN
      rw [← hg1]
      have hs2' : s2 ≤ 1 := by omega
      have hgi : I64 g1 := by unfold I64; omega
      have htz : t.size ≤ 2016 := by have := hR.2.1; unfold halfN at hfit; omega
      have HGI := Lib.hid hgi
      obtain ⟨pn, hpn⟩ : ∃ x, x = partsN t.size := ⟨_, rfl⟩
      have HSEC := Lib.hid (fun W => impl_sectors t.size W ht)
      rw [← hpn] at HSEC
      have hpl : pn ≤ 32 := by rw [hpn]; unfold partsN; omega
      obtain ⟨lim, hlim⟩ : ∃ x : Int, x = min steps ((pn : Int) + 3) := ⟨_, rfl⟩
      have hmin : min steps ((pn : Int) + 3) = lim := hlim.symm
      have HLIM := Lib.hid (fun k => putN_lt t steps pn hpn k)
      rw [← hlim] at HLIM
      have HPL := Lib.hid (show putN t steps ≤ 35 by have := putN_le t steps; omega)
      have hw1 : IntKind.i64.wrap ((pn : Int) + 3) = (pn : Int) + 3 := IntWalk.i64_in _ (by omega)
      have HRR := Lib.hid hR
      clear hR hE hfit hse hs1 hg0 hf hg1 hs2 hpn hlim hgi
      replace HL := Lib.hid (HL.out.alloc (.cells #[.int .i64 g1, .int .i64 (s2 : Int), .int .i64 (t.size : Int)] 58))
      obtain ⟨y0, y1, yl⟩ := HL.out.b2 (List.mem_cons_of_mem _ (List.mem_cons_of_mem _ List.mem_cons_self))
      go_wp2_with fail
      refine (impl_anew _ d _ (HL.out.at_ List.mem_cons_self) HSM.out).mono ?_
      intro e w2 h
      have hz2 := block_lt (HL.out.blk _ (List.mem_cons_of_mem _ List.mem_cons_self))
      obtain ⟨E1, u1, E2, u2, rfl, ho, hb⟩ := h.parts
      replace HL := Lib.hid (((HL.out.lift hb).hold (ho.base (base' := w.heap.size + 2) (by omega))).alloc (.cells #[.slice E1 d.S.length u1, .slice E2 d.P.length u2] 26))
      have hz12 := block_lt ((HL.out.blk _ (List.mem_cons_of_mem _ List.mem_cons_self)))
      simp only [World.size_alloc] at hz12
      have hzb : w1.heap.size < w2.heap.size := by have h1 := hb.size; simp only [World.size_alloc] at h1; omega
      clear h ho hb y0 y1 yl hz12
      obtain ⟨q0, q1, q2, ql⟩ := HL.out.b3 (List.mem_cons_of_mem _ List.mem_cons_self)
      go_wp2_with fail
      refine (HSEC.out _).mono ?_
      rintro e w3 ⟨rfl, hb⟩
      replace HL := Lib.hid (HL.out.lift hb)
      clear hb q0 q1 q2 ql
      go_wp2
      go_loopw [34] (fun i wr => ∃ (k : Nat) (cur : Dk) (E1 : Option Addr) (u1 : Nat) (E2 : Option Addr) (u2 : Nat), k ≤ putN t steps ∧ i = .int .i64 (k : Int) ∧ putRun f g1 (s2 : Int) t k d = (0, cur) ∧ Led w wr [(w2.heap.size, .cells #[.slice E1 cur.S.length u1, .slice E2 cur.P.length u2] 26 (0, 0)), (w1.heap.size, .cells #[.int .i64 g1, .int .i64 (s2 : Int), .int .i64 (t.size : Int)] 58 (0, 0)), (w.heap.size + 1, .cells #[.slice none 0 0, .slice none 0 0, .string ⟨#[]⟩, .int .i64 0, .int .i64 0] 31 (0, 0)), (w.heap.size, .cells #[.slice A1 d.S.length c1, .slice A2 d.P.length c2] 26 (0, 0))] [(w.heap.size, .agg #[.slice A1 d.S.length c1, .slice A2 d.P.length c2], d)] [(w.heap.size + 2, .agg #[.slice E1 cur.S.length u1, .slice E2 cur.P.length u2], cur)]) (fun i _ => putN t steps + 1 - (intOf i).toNat)
      case atStart =>
        exact ⟨0, d, E1, u1, E2, u2, Nat.zero_le _, rfl, rfl, HL.out⟩
      case round =>
        clear HL
        obtain ⟨k, cur, E1, u1, E2, u2, hk, rfl, hrun, hl⟩ := hrel
        have HL := Lib.hid hl
        have hpr := putRun_right HRR.out k cur hrun
        have HRC := Lib.hid hpr.1
        have HFC := Lib.hid (show f = firstN cur s2 by rw [HFE.out]; unfold firstN halfN; rw [hpr.2])
        have HPR := Lib.hid hrun
        clear hl hrun hpr
        have hk35 : k ≤ 35 := by have := HPL.out; omega
        obtain ⟨y0, y1, yl⟩ := HL.out.b2 List.mem_cons_self
        by_cases hlt : k < putN t steps
        · have hlt' : (k : Int) < lim := (HLIM.out k).2 hlt
          obtain ⟨q0, q1, q2, ql⟩ := HL.out.b3 (List.mem_cons_of_mem _ List.mem_cons_self)
          obtain ⟨x, hx⟩ : ∃ x, x = putDo f g1 (s2 : Int) t k cur := ⟨_, rfl⟩
          have HX := Lib.hid hx
          clear hx
          go_wp2_with fail
          refine (impl_putstep _ cur f k s2 g1 t _ ((HL.out.ow List.mem_cons_self).at_) HRC.out (by omega) HFC.out (by omega) HGI.out (by omega)).mono ?_
          intro e w5 h
          rw [← HX.out] at h
          have hz5 := block_lt (HL.out.blk _ List.mem_cons_self)
          obtain ⟨B1, e1, B2, e2, rfl, ho, hb⟩ := h.parts
          have HLD := Lib.hid (HL.out.lift hb).drop
          have HO := Lib.hid (ho.base (base' := w.heap.size + 2) (by omega))
          have hzr : w2.heap.size < w5.heap.size := by have := hb.size; omega
          have HRL := Lib.hid (show w.heap.size + 2 ≤ wr.heap.size by omega)
          clear h ho hb y0 y1 yl q0 q1 q2 ql
          replace HL := Lib.hid HLD.out
          clear HLD
          have HY := Lib.hid (HL.out.blk _ List.mem_cons_self)
          obtain ⟨y0, y1⟩ := box2 HY.out
          obtain ⟨n0, n1, _, _⟩ := box_frozen HY.out
          have hne : ¬ w5.heap.size = w2.heap.size := by omega
          have hne' : ¬ w2.heap.size = w5.heap.size := by omega
          by_cases hc : x.code = 0
          · have hcb : (x.code != 0) = false := by simp [hc]
            have hcc : (x.code == 0) = true := by simp [hc]
            have HOK := Lib.hid (putRun_ok HPR.out (by rw [← HX.out]; exact hc))
            rw [← HX.out] at HOK
            clear hc
            go_wp2
            go_roundw
            case rel =>
              refine ⟨k + 1, x.dk, B1, e1, B2, e2, by omega, by go_num, HOK.out, ?_⟩
              refine put_round_made HL.out _ (by omega) (fun q hq => ?_) (fun q hq => ?_) HO.out
              · simp only [List.mem_cons, List.not_mem_nil, or_false] at hq
                rcases hq with rfl | rfl | rfl <;> simp only <;> omega
              · rw [List.mem_singleton.1 hq]; simp only; omega
            case measure => simp [intOf]; omega
          · have hcb : (x.code != 0) = true := by simp [hc]
            have hcc : (x.code == 0) = false := by simp [hc]
            have hE := HRUN.out
            rw [putRun_ill HPR.out (by rw [← HX.out]; exact hc) _ hlt, ← HX.out, if_neg hc] at hE
            have HE := Lib.hid hE
            clear hE hc
            have hnz : ¬ w5.heap.size = w.heap.size + 1 := by omega
            have hnz' : ¬ w.heap.size + 1 = w5.heap.size := by omega
            have HZ := Lib.hid (HL.out.blk _ (List.mem_cons_of_mem _ (List.mem_cons_of_mem _ List.mem_cons_self)))
            have hz := block_lt HZ.out
            obtain ⟨z0, z1, z2, z3, z4⟩ := box5 HZ.out
            obtain ⟨k0, k1, k2, k3⟩ := box_frozen HZ.out
            have k4 : w5.frozen? ⟨w.heap.size + 1, 4, none⟩ = false := block_free HZ.out 4
            go_wp2
            refine bodyPost_ret (v := .agg #[.slice none 0 0, .slice none 0 0, .string ⟨#[]⟩, .int .i64 0, .int .i64 x.code]) (by simp [results, Tryz.results11, go_sem, z0, z1, z2, z3, z4, hz]) rfl ?_
            rw [HE.out]
            refine ⟨_, rfl, ao_ill _ _ _, ?_⟩
            repeat (first | refine Below.setCell ?_ (by simp only; omega) _ | refine Below.alloc ?_ (by first | exact Nat.le_refl _ | (simp only [World.size_alloc]; omega) | (simp only [World.size_setCell]; omega)) _)
            exact HL.out.bel
        · have hlt' : ¬ (k : Int) < lim := fun h => hlt ((HLIM.out k).1 h)
          have hkn : k = putN t steps := by omega
          subst hkn
          have hE := HRUN.out
          rw [HPR.out] at hE
          simp only [if_pos] at hE
          have HE := Lib.hid hE
          clear hE hlt hk
          have HZ := Lib.hid (HL.out.blk _ (List.mem_cons_of_mem _ (List.mem_cons_of_mem _ List.mem_cons_self)))
          have hz := block_lt HZ.out
          obtain ⟨z0, z1, z2, z3, z4⟩ := box5 HZ.out
          obtain ⟨k0, k1, k2, k3⟩ := box_frozen HZ.out
          have k4 : wr.frozen? ⟨w.heap.size + 1, 4, none⟩ = false := block_free HZ.out 4
          go_wp2
          refine bodyPost_ret (v := .agg #[.slice E1 cur.S.length u1, .slice E2 cur.P.length u2, .string ⟨#[]⟩, .int .i64 0, .int .i64 0]) (by simp [results, Tryz.results11, go_sem, z0, z1, z2, z3, z4]) rfl ?_
          rw [HE.out]
          exact ⟨_, rfl, ao_done' (o := ⟨cur, ⟨#[]⟩, 0, 0⟩) HL.out.bel (HL.out.ow List.mem_cons_self) (Nat.le_refl _) _ _ _ _ _⟩
    · have HE := Lib.hid (hE steps h8)
      have HF := Lib.hid hF
      clear hE hF
      replace HL := Lib.hid (HL.out.alloc (.cells #[.int .i64 0, .int .i64 0, .int .i64 0] 58))
      have hz0 := block_lt (HL.out.blk _ (List.mem_cons_of_mem _ List.mem_cons_self))
      go_wp2_with fail
      refine (HF.out _ (HS.out.lift HL.out.bel) (HV.out.lift HL.out.bel)).mono ?_
      intro e w3 h
      obtain ⟨B1, e1, B2, e2, rfl, ho, hb⟩ := h.parts
      replace HL := Lib.hid (HL.out.lift hb)
      have HO := Lib.hid (ho.base (base' := w.heap.size + 2) (by omega))
      clear h ho hb
      have HZ := Lib.hid (HL.out.blk _ (List.mem_cons_of_mem _ List.mem_cons_self))
      have hz := block_lt HZ.out
      obtain ⟨z0, z1, z2, z3, z4⟩ := box5 HZ.out
      obtain ⟨k0, k1, k2, k3⟩ := box_frozen HZ.out
      have k4 : w3.frozen? ⟨w.heap.size + 1, 4, none⟩ = false := block_free HZ.out 4
      go_wp2
      refine bodyPost_ret (v := .agg #[.slice B1 (illAo c).dk.S.length e1, .slice B2 (illAo c).dk.P.length e2, .string (illAo c).text, .int .i64 (illAo c).gen, .int .i64 (illAo c).code]) (by simp [results, Tryz.results11, go_sem, z0, z1, z2, z3, z4]) rfl ?_
      rw [HE.out]
      exact ⟨_, rfl, ao_done HL.out HO.out (Nat.le_refl _) _ _ _ _ _⟩

end Go.Proofs.YthchlfllcnlmjaaGreatDoor
