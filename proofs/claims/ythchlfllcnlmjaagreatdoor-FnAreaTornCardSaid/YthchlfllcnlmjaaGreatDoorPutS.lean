/-
  Contract of the model's AreaPut.
-/
import Derived.Test.YthchlfllcnlmjaaGreatDoorPutI
import Derived.Test.YthchlfllcnlmjaaGreatDoorAReadS
namespace Go.Proofs.YthchlfllcnlmjaaGreatDoor
open Go.ChangeShapes Go.WideShapes Go.ChangeAt Go.RowKit

set_option maxRecDepth 100000 in
set_option maxHeartbeats 8000000 in
theorem spec_aput (v : Value) (d : Dk) (t : ByteArray) (steps : Int) (w : World) (hv : DkAt w w.heap.size v d) (hd : Small d) (ht : t.size ≤ 1048576) :
    Calls Tryz.prog 15 #[v, .string t, .int .i64 steps] w (OwnsAo w (putAo d t steps)) := by
  obtain ⟨vs, vp, rfl, hs', hp⟩ := hv
  obtain ⟨A1, c1, rfl⟩ := hs'.form
  obtain ⟨A2, c2, rfl⟩ := hp.form
  have HL := Lib.hid (led_two w (.cells #[.slice A1 d.S.length c1, .slice A2 d.P.length c2] 26) (.cells #[.slice none 0 0, .slice none 0 0, .string ⟨#[]⟩, .int .i64 0, .int .i64 0] 31) (d := d) ⟨_, _, rfl, hs', hp⟩)
  have HSM := Lib.hid hd
  have hd1 := hd.1; have hd2 := hd.2.2.1
  clear hs' hp hd
  go_enter Tryz.func15, Tryz.ntmps15
  by_cases h8 : 8000 < t.size
  · have h8' : 8000 < (t.size : Int) := by omega
    have HE := Lib.hid (putAo_size (d := d) (steps := steps) h8)
    have hzi := block_lt (HL.out.blk _ List.mem_cons_self)
    go_wp2_with fail
    refine (spec_illao 2 _).mono ?_
    intro e w2 h
    obtain ⟨K1, f1, K2, f2, rfl, ho, hb⟩ := h.parts
    replace HL := Lib.hid (HL.out.lift hb)
    have HOI := Lib.hid (ho.base (base' := w.heap.size + 2) (by first | omega | (simp only [World.size_alloc]; omega) | (simp only [World.size_setCell]; omega)))
    clear h ho hb
    have HZ := Lib.hid (HL.out.blk _ List.mem_cons_self)
    have hz := block_lt HZ.out
    obtain ⟨z0, z1, z2, z3, z4⟩ := box5 HZ.out
    obtain ⟨k0, k1, k2, k3⟩ := box_frozen HZ.out
    have k4 : w2.frozen? ⟨w.heap.size + 1, 4, none⟩ = false := block_free HZ.out 4
    go_wp2
    refine bodyPost_ret (v := .agg #[.slice K1 (illAo 2).dk.S.length f1, .slice K2 (illAo 2).dk.P.length f2, .string (illAo 2).text, .int .i64 (illAo 2).gen, .int .i64 (illAo 2).code]) (by simp [results, Tryz.results15, go_sem, z0, z1, z2, z3, z4]) rfl ?_
    rw [HE.out]
    exact ⟨_, rfl, ao_done' HL.out.bel HOI.out (Nat.le_refl _) _ _ _ _ _⟩
  · have h8' : ¬ 8000 < (t.size : Int) := by omega
    go_wp2_with fail
    refine (spec_right _ d _ (HL.out.at_ List.mem_cons_self) (by omega) (by omega)).mono ?_
    rintro e w1 ⟨rfl, hb⟩
    replace HL := Lib.hid (HL.out.lift hb)
    clear hb
    by_cases hR : Right d
    · rw [rightB_yes hR]
      have HRR := Lib.hid hR
      clear hR
      obtain ⟨y0, y1, yl⟩ := HL.out.b2 (List.mem_cons_of_mem _ List.mem_cons_self)
      have hz1 := block_lt (HL.out.blk _ List.mem_cons_self)
      go_wp2_with fail
      refine (spec_aread _ d _ (HL.out.at_ List.mem_cons_self) HSM.out).mono ?_
      intro e w2 h
      obtain ⟨X1, x1, X2, x2, rfl, ho, hb⟩ := h.parts
      have hz2 : w.heap.size + 1 < w2.heap.size := by have := hb.size; omega
      replace HL := Lib.hid (HL.out.lift hb)
      clear h ho hb y0 y1 yl
      obtain ⟨g, s, n, c, hse, hcs⟩ := seen_cases (d := d)
      rcases hcs with ⟨hc, rfl, rfl, rfl⟩ | ⟨rfl, hg0, hgi, s, n, rfl, rfl, hs1, hn⟩
      · have hA := readAo_ill HRR.out hse hc
        rw [hA]
        have HE := Lib.hid (putAo_read (steps := steps) h8 HRR.out hA hc)
        have hcb : (c != 0) = true := by simp [hc]
        have hcc : (c == 0) = false := by simp [hc]
        clear hA hse hc
        replace HL := Lib.hid (HL.out.alloc (.cells #[.slice X1 (illAo c).dk.S.length x1, .slice X2 (illAo c).dk.P.length x2, .string (illAo c).text, .int .i64 (illAo c).gen, .int .i64 (illAo c).code] 31))
        have hcod : (illAo c).code = c := rfl
        have hzi := block_lt (HL.out.blk _ (List.mem_cons_of_mem _ List.mem_cons_self))
        go_wp2_with fail
        refine (spec_illao c _).mono ?_
        intro e w3 h
        obtain ⟨K1, f1, K2, f2, rfl, ho, hb⟩ := h.parts
        replace HL := Lib.hid (HL.out.lift hb)
        have HOI := Lib.hid (ho.base (base' := w.heap.size + 2) (by first | omega | (simp only [World.size_alloc]; omega) | (simp only [World.size_setCell]; omega)))
        clear h ho hb
        have HZ := Lib.hid (HL.out.blk _ (List.mem_cons_of_mem _ List.mem_cons_self))
        have hz := block_lt HZ.out
        obtain ⟨z0, z1, z2, z3, z4⟩ := box5 HZ.out
        obtain ⟨k0, k1, k2, k3⟩ := box_frozen HZ.out
        have k4 : w3.frozen? ⟨w.heap.size + 1, 4, none⟩ = false := block_free HZ.out 4
        go_wp2
        refine bodyPost_ret (v := .agg #[.slice K1 (illAo c).dk.S.length f1, .slice K2 (illAo c).dk.P.length f2, .string (illAo c).text, .int .i64 (illAo c).gen, .int .i64 c]) (by simp [results, Tryz.results15, go_sem, z0, z1, z2, z3, z4]) rfl ?_
        rw [HE.out]
        exact ⟨_, rfl, ao_done' HL.out.bel HOI.out (Nat.le_refl _) _ _ _ _ _⟩
      · rcases Classical.em (∀ i < partsN n, fullAt d (firstN d s) n i) with hfull | hfull
        · have hA := readAo_ok HRR.out hse hfull
          obtain ⟨xt, hxt⟩ : ∃ x, x = gotB d (firstN d s) n (partsN n) := ⟨_, rfl⟩
          rw [← hxt] at hA
          rw [hA]
          clear hxt hfull
          replace HL := Lib.hid (HL.out.alloc (.cells #[.slice X1 d.S.length x1, .slice X2 d.P.length x2, .string xt, .int .i64 g, .int .i64 0] 31))
          have HSN := Lib.hid (fun (W : World) (h : DkAt W W.heap.size (.agg #[.slice A1 d.S.length c1, .slice A2 d.P.length c2]) d) => spec_seen _ d W h HRR.out)
          rw [hse] at HSN
          obtain ⟨y0, y1, yl⟩ := HL.out.b2 (List.mem_cons_of_mem _ (List.mem_cons_of_mem _ List.mem_cons_self))
          go_wp2_with fail
          refine (HSN.out _ (HL.out.at_ List.mem_cons_self)).mono ?_
          rintro e w3 ⟨rfl, hb⟩
          replace HL := Lib.hid (HL.out.lift hb)
          clear hb y0 y1 yl
          obtain ⟨y0, y1, yl⟩ := HL.out.b2 (List.mem_cons_of_mem _ (List.mem_cons_of_mem _ List.mem_cons_self))
          obtain ⟨hf', hhf⟩ : ∃ x : Int, x = (((d.S.length - 1) / 2 : Nat) : Int) := ⟨_, rfl⟩
          have HHF := Lib.hid (fun W => spec_half A1 d.S.length c1 (.slice A2 d.P.length c2) W HRR.out.1 HRR.out.2.1)
          rw [← hhf] at HHF
          have hn64 := HRR.out.2.1
          have hm1 : IntKind.i64.wrap (64 * hf') = 64 * hf' := IntWalk.i64_in _ (by omega)
          have HHE := Lib.hid (show ((64 * halfN d : Nat) : Int) = 64 * hf' by unfold halfN; omega)
          clear hhf
          go_wp2_with fail
          refine (HHF.out _).mono ?_
          rintro e w4 ⟨rfl, hb⟩
          replace HL := Lib.hid (HL.out.lift hb)
          clear hb y0 y1 yl
          obtain ⟨q0, q1, q2, q3, q4, ql⟩ := HL.out.b5 List.mem_cons_self
          by_cases hbig : 64 * hf' < (t.size : Int)
          · have HE := Lib.hid (putAo_full (steps := steps) (t := t) h8 HRR.out hA (.inl (by have := HHE.out; omega)))
            clear hA hse
            have hzi := block_lt (HL.out.blk _ (List.mem_cons_of_mem _ List.mem_cons_self))
            go_wp2_with fail
            refine (spec_illao 9 _).mono ?_
            intro e w5 h
            obtain ⟨K1, f1, K2, f2, rfl, ho, hb⟩ := h.parts
            replace HL := Lib.hid (HL.out.lift hb)
            have HOI := Lib.hid (ho.base (base' := w.heap.size + 2) (by first | omega | (simp only [World.size_alloc]; omega) | (simp only [World.size_setCell]; omega)))
            clear h ho hb
            have HZ := Lib.hid (HL.out.blk _ (List.mem_cons_of_mem _ List.mem_cons_self))
            have hz := block_lt HZ.out
            obtain ⟨z0, z1, z2, z3, z4⟩ := box5 HZ.out
            obtain ⟨k0, k1, k2, k3⟩ := box_frozen HZ.out
            have k4 : w5.frozen? ⟨w.heap.size + 1, 4, none⟩ = false := block_free HZ.out 4
            go_wp2
            refine bodyPost_ret (v := .agg #[.slice K1 (illAo 9).dk.S.length f1, .slice K2 (illAo 9).dk.P.length f2, .string (illAo 9).text, .int .i64 (illAo 9).gen, .int .i64 (illAo 9).code]) (by simp [results, Tryz.results15, go_sem, z0, z1, z2, z3, z4]) rfl ?_
            rw [HE.out]
            exact ⟨_, rfl, ao_done' HL.out.bel HOI.out (Nat.le_refl _) _ _ _ _ _⟩
          · by_cases hgen : 1000000 ≤ g
            · have hgen' : ¬ g < 1000000 := by omega
              have HE := Lib.hid (putAo_full (steps := steps) (t := t) h8 HRR.out hA (.inr hgen))
              clear hA hse
              have hzi := block_lt (HL.out.blk _ (List.mem_cons_of_mem _ List.mem_cons_self))
              go_wp2_with fail
              refine (spec_illao 9 _).mono ?_
              intro e w5 h
              obtain ⟨K1, f1, K2, f2, rfl, ho, hb⟩ := h.parts
              replace HL := Lib.hid (HL.out.lift hb)
              have HOI := Lib.hid (ho.base (base' := w.heap.size + 2) (by first | omega | (simp only [World.size_alloc]; omega) | (simp only [World.size_setCell]; omega)))
              clear h ho hb
              have HZ := Lib.hid (HL.out.blk _ (List.mem_cons_of_mem _ List.mem_cons_self))
              have hz := block_lt HZ.out
              obtain ⟨z0, z1, z2, z3, z4⟩ := box5 HZ.out
              obtain ⟨k0, k1, k2, k3⟩ := box_frozen HZ.out
              have k4 : w5.frozen? ⟨w.heap.size + 1, 4, none⟩ = false := block_free HZ.out 4
              go_wp2
              refine bodyPost_ret (v := .agg #[.slice K1 (illAo 9).dk.S.length f1, .slice K2 (illAo 9).dk.P.length f2, .string (illAo 9).text, .int .i64 (illAo 9).gen, .int .i64 (illAo 9).code]) (by simp [results, Tryz.results15, go_sem, z0, z1, z2, z3, z4]) rfl ?_
              rw [HE.out]
              exact ⟨_, rfl, ao_done' HL.out.bel HOI.out (Nat.le_refl _) _ _ _ _ _⟩
            · have hgen' : g < 1000000 := by omega
              have hfit : ¬ (64 * halfN d < t.size ∨ 1000000 ≤ g) := by have := HHE.out; omega
              obtain ⟨s2, hs2⟩ : ∃ x : Nat, x = 1 - s := ⟨_, rfl⟩
              have HRUN := Lib.hid (putAo_run (t := t) (steps := steps) h8 HRR.out hA hfit hse hs1)
              rw [← hs2] at HRUN
              obtain ⟨f, hf⟩ : ∃ x, x = firstN d s2 := ⟨_, rfl⟩
              rw [← hf] at HRUN
              obtain ⟨g1, hg1⟩ : ∃ x : Int, x = g + 1 := ⟨_, rfl⟩
              rw [← hg1] at HRUN
              have hs2' : s2 ≤ 1 := by omega
              have hsb : (1 : Int) - (s : Int) = (s2 : Int) := by omega
              have hw5 : IntKind.i64.wrap (s2 : Int) = (s2 : Int) := IntWalk.i64_in _ (by omega)
              have hgb : g + 1 = g1 := hg1.symm
              have hgi1 : I64 g1 := by unfold I64; omega
              have hw6 : IntKind.i64.wrap g1 = g1 := IntWalk.i64_in _ hgi1
              have htz : t.size ≤ 2016 := by unfold halfN at hfit; omega
              have HGI := Lib.hid hgi1
              have HGJ := Lib.hid (show I64 (s2 : Int) by unfold I64; omega)
              have HGK := Lib.hid (show I64 (t.size : Int) by unfold I64; omega)
              have hff : f ≤ 64 := by
                rw [hf]
                unfold firstN
                have : s2 * halfN d ≤ 1 * halfN d := Nat.mul_le_mul_right _ hs2'
                unfold halfN at *
                omega
              have HFI := Lib.hid (fun W => spec_first A1 (.slice A2 d.P.length c2) c1 s2 d W HRR.out.1 HRR.out.2.1 hs2')
              rw [← hf] at HFI
              obtain ⟨pn, hpn⟩ : ∃ x, x = partsN t.size := ⟨_, rfl⟩
              have e1 : IntKind.i64.wrap ((t.size : Int) + 64) = (t.size : Int) + 64 := IntWalk.i64_in _ (by omega)
              have e2 : IntKind.i64.wrap ((t.size : Int) + 64 - 1) = (t.size : Int) + 64 - 1 := IntWalk.i64_in _ (by omega)
              have e3 := parts_int t.size
              rw [← hpn] at e3
              have hpl : pn ≤ 32 := by rw [hpn]; unfold partsN; omega
              have e4 : IntKind.i64.wrap ((pn : Nat) : Int) = (pn : Int) := IntWalk.i64_in _ (by omega)
              have e5 : IntKind.i64.wrap ((pn : Int) + 3) = (pn : Int) + 3 := IntWalk.i64_in _ (by omega)
              have e6 : IntKind.i64.wrap ((pn : Int) + 1) = (pn : Int) + 1 := IntWalk.i64_in _ (by omega)
              have HLIM := Lib.hid (fun k => putN_lt t steps pn hpn k)
              have HPL := Lib.hid (show putN t steps ≤ 35 by have := putN_le t steps; omega)
              have HPN := Lib.hid hpn
              clear hA hse hf hg1 hs2 hgi1 hgi hfit hpn
              obtain ⟨y0, y1, yl⟩ := HL.out.b2 (List.mem_cons_of_mem _ (List.mem_cons_of_mem _ List.mem_cons_self))
              have hz4 := block_lt (HL.out.blk _ List.mem_cons_self)
              go_wp2_with fail
              refine (spec_copy _ d _ (HL.out.at_ List.mem_cons_self) (by omega) (by omega)).mono ?_
              intro e w5 h
              obtain ⟨E1, u1, E2, u2, rfl, ho, hb⟩ := h.parts
              have hz5 : w2.heap.size < w5.heap.size := by have := hb.size; omega
              replace HL := Lib.hid (((HL.out.lift hb).hold (ho.base (base' := w.heap.size + 2) (by omega))).alloc (.cells #[.slice E1 d.S.length u1, .slice E2 d.P.length u2] 26))
              clear h ho hb y0 y1 yl q0 q1 q2 q3 q4 ql
              go_wp2
              go_loopw [15] (fun i wr => ∃ (k : Nat) (cur : Dk) (E1 : Option Addr) (u1 : Nat) (E2 : Option Addr) (u2 : Nat), k ≤ putN t steps ∧ i = .int .i64 (k : Int) ∧ putRun f g1 (s2 : Int) t k d = (0, cur) ∧ Led w wr [(w5.heap.size, .cells #[.slice E1 cur.S.length u1, .slice E2 cur.P.length u2] 26 (0, 0)), (w2.heap.size, .cells #[.slice X1 d.S.length x1, .slice X2 d.P.length x2, .string xt, .int .i64 g, .int .i64 0] 31 (0, 0)), (w.heap.size + 1, .cells #[.slice none 0 0, .slice none 0 0, .string ⟨#[]⟩, .int .i64 0, .int .i64 0] 31 (0, 0)), (w.heap.size, .cells #[.slice A1 d.S.length c1, .slice A2 d.P.length c2] 26 (0, 0))] [(w.heap.size, .agg #[.slice A1 d.S.length c1, .slice A2 d.P.length c2], d)] [(w.heap.size + 2, .agg #[.slice E1 cur.S.length u1, .slice E2 cur.P.length u2], cur)]) (fun i _ => putN t steps + 1 - (intOf i).toNat)
              case atStart =>
                exact ⟨0, d, E1, u1, E2, u2, Nat.zero_le _, rfl, rfl, HL.out⟩
              case round =>
                clear HL
                obtain ⟨k, cur, E1, u1, E2, u2, hk, rfl, hrun, hl⟩ := hrel
                have HL := Lib.hid hl
                have hpr := putRun_right HRR.out k cur hrun
                have HRC := Lib.hid hpr.1
                have HPR := Lib.hid hrun
                clear hl hrun hpr
                have hk35 : k ≤ 35 := by have := HPL.out; omega
                by_cases hlt : k < putN t steps
                · have hlt0 := (HLIM.out k).2 hlt
                  have hlt1 : (k : Int) < (pn : Int) + 3 := by omega
                  have hlt2 : (k : Int) < steps := by omega
                  clear hlt0
                  obtain ⟨x, hx⟩ : ∃ x, x = putDo f g1 (s2 : Int) t k cur := ⟨_, rfl⟩
                  have HX := Lib.hid hx
                  have hzr := block_lt (HL.out.blk _ List.mem_cons_self)
                  have hne : ¬ wr.heap.size = w5.heap.size := by omega
                  have hne' : ¬ w5.heap.size = wr.heap.size := by omega
                  have hnz : ¬ wr.heap.size = w.heap.size + 1 := by omega
                  have hnz' : ¬ w.heap.size + 1 = wr.heap.size := by omega
                  replace HL := Lib.hid (HL.out.alloc (.cells #[.slice none 0 0, .slice none 0 0, .string ⟨#[]⟩, .int .i64 0] 68))
                  have hw1 : IntKind.i64.wrap ((k : Int) * 64) = (k : Int) * 64 := IntWalk.i64_in _ (by omega)
                  have hw2 : IntKind.i64.wrap (((k : Int) + 1) * 64) = ((k : Int) + 1) * 64 := IntWalk.i64_in _ (by omega)
                  have hw4 : IntKind.i64.wrap ((k : Int) + 1) = (k : Int) + 1 := IntWalk.i64_in _ (by omega)
                  have hw3 : IntKind.i64.wrap ((f : Int) + (k : Int)) = (f : Int) + (k : Int) := IntWalk.i64_in _ (by omega)
                  by_cases hkn : k < pn
                  · have hkn' : (k : Int) < (pn : Int) := by omega
                    have hkt : 64 * k < t.size := by have h1 := HPN.out; unfold partsN at h1; omega
                    obtain ⟨he, hhe⟩ : ∃ x, x = min (64 * k + 64) t.size := ⟨_, rfl⟩
                    have HMIN := Lib.hid (fun W => spec_min (t.size : Int) (((k : Int) + 1) * 64) W)
                    rw [show min (t.size : Int) (((k : Int) + 1) * 64) = (he : Int) by omega] at HMIN
                    have hh1 : (k : Int) * 64 ≤ (he : Int) := by omega
                    have hh2 : (he : Int) ≤ (t.size : Int) := by omega
                    have hxt := hx.trans (putDo_text (by rw [← HPN.out]; exact hkn))
                    rw [← hhe] at hxt
                    obtain ⟨tx, htx⟩ : ∃ x, x = t.extract (64 * k) he := ⟨_, rfl⟩
                    have hex : t.extract (k * 64) he = tx := by rw [htx, Nat.mul_comm]
                    rw [← htx] at hxt
                    have HXW := Lib.hid (show writeDo cur ((f : Int) + (k : Int)) tx = x from hxt.symm)
                    have HTS := Lib.hid (show tx.size ≤ 1048576 by rw [htx, ByteArray.size_extract]; omega)
                    have hsl : ∀ W : World, (Instr.slice 9 (.string t) (some (.int .i64 ((k : Int) * 64))) (some (.int .i64 (he : Int))) none).run Tryz.prog W = .ok (.string tx) W := fun W => by
                      have h := run_slice_string (P := Tryz.prog) (w := W) 9 t .i64 .i64 ((k : Int) * 64) (he : Int) Tryz.underlying9 (by omega) hh1 hh2
                      rw [show ((k : Int) * 64).toNat = k * 64 by omega, Int.toNat_natCast, hex] at h
                      exact h
                    clear hx hxt hhe htx hkn hex
                    go_wp2
                    go_upto_region 20 with fail
                    refine wp_region_calm_led_tail [(4, (fun u => u = .int .i64 (f : Int)), (fun _ _ => True)), (14, (fun u => u = .int .i64 (he : Int)), (fun _ _ => True)), (16, (fun u => ∃ B1 e1 B2 e2, u = .agg #[.slice B1 x.dk.S.length e1, .slice B2 x.dk.P.length e2, .string x.data, .int .i64 x.code]), fun u W => DoOw W (w.heap.size + 2) u x)] 17 (by kernel_rfl) (by kernel_rfl) (by
                      intro p hp v
                      simp only [List.mem_cons, List.not_mem_nil, or_false] at hp
                      rcases hp with rfl | rfl | rfl
                      · exact mono_true
                      · exact mono_true
                      · exact fun W W' hb h => h.lift hb) HL.out ?_
                    repeat (first
                      | (refine calm_skip (by rfl) ?_; try simp only [Act.put, List.setIfInBounds_toArray, List.set_cons_zero, List.set_cons_succ])
                      | (refine calm_plain (by rfl) (by rfl) ?_; apply Exists.intro; refine ⟨fun wc hC hD => ?_, ?_⟩; (focus (clear hD; obtain ⟨y0, y1, yl⟩ := hC.b2 (List.mem_cons_of_mem _ List.mem_cons_self); obtain ⟨v0, v1, vl⟩ := hC.b2 (List.mem_cons_of_mem _ (List.mem_cons_of_mem _ (List.mem_cons_of_mem _ (List.mem_cons_of_mem _ List.mem_cons_self)))); clear hC; go_simp; first | done | with_reducible rfl)); try simp only [Act.put, List.setIfInBounds_toArray, List.set_cons_zero, List.set_cons_succ]))
                    refine calm_call _ _ (by rfl) (by rfl) ?_ ?_
                    focus
                      apply Exists.intro
                      apply Exists.intro
                      refine ⟨fun wc hC hD => ?_, fun wc hC hD => ?_⟩
                      focus (clear hD; obtain ⟨y0, y1, yl⟩ := hC.b2 (List.mem_cons_of_mem _ List.mem_cons_self); obtain ⟨v0, v1, vl⟩ := hC.b2 (List.mem_cons_of_mem _ (List.mem_cons_of_mem _ (List.mem_cons_of_mem _ (List.mem_cons_of_mem _ List.mem_cons_self)))); clear hC; go_simp; first | done | with_reducible exact ⟨rfl, rfl⟩)
                      clear hD
                      with_reducible refine (HFI.out _).mono ?_
                      rintro e wx ⟨rfl, hb⟩
                      exact ⟨_, rfl, hb, rfl, trivial⟩
                    rintro _ rfl
                    try simp only [Act.put, List.setIfInBounds_toArray, List.set_cons_zero, List.set_cons_succ]
                    repeat (first
                      | (refine calm_skip (by rfl) ?_; try simp only [Act.put, List.setIfInBounds_toArray, List.set_cons_zero, List.set_cons_succ])
                      | (refine calm_plain (by rfl) (by rfl) ?_; apply Exists.intro; refine ⟨fun wc hC hD => ?_, ?_⟩; (focus (clear hD; obtain ⟨y0, y1, yl⟩ := hC.b2 (List.mem_cons_of_mem _ List.mem_cons_self); obtain ⟨v0, v1, vl⟩ := hC.b2 (List.mem_cons_of_mem _ (List.mem_cons_of_mem _ (List.mem_cons_of_mem _ (List.mem_cons_of_mem _ List.mem_cons_self)))); clear hC; go_simp; first | done | with_reducible rfl)); try simp only [Act.put, List.setIfInBounds_toArray, List.set_cons_zero, List.set_cons_succ]))
                    refine calm_call _ _ (by rfl) (by rfl) ?_ ?_
                    focus
                      apply Exists.intro
                      apply Exists.intro
                      refine ⟨fun wc hC hD => ?_, fun wc hC hD => ?_⟩
                      focus (clear hD; obtain ⟨y0, y1, yl⟩ := hC.b2 (List.mem_cons_of_mem _ List.mem_cons_self); obtain ⟨v0, v1, vl⟩ := hC.b2 (List.mem_cons_of_mem _ (List.mem_cons_of_mem _ (List.mem_cons_of_mem _ (List.mem_cons_of_mem _ List.mem_cons_self)))); clear hC; go_simp; first | done | with_reducible exact ⟨rfl, rfl⟩)
                      clear hD
                      with_reducible refine (HMIN.out _).mono ?_
                      rintro e wx ⟨rfl, hb⟩
                      exact ⟨_, rfl, hb, rfl, trivial⟩
                    rintro _ rfl
                    try simp only [Act.put, List.setIfInBounds_toArray, List.set_cons_zero, List.set_cons_succ]
                    repeat (first
                      | (refine calm_skip (by rfl) ?_; try simp only [Act.put, List.setIfInBounds_toArray, List.set_cons_zero, List.set_cons_succ])
                      | (refine calm_plain (by rfl) (by rfl) ?_; apply Exists.intro; refine ⟨fun wc hC hD => ?_, ?_⟩; (focus (clear hD; obtain ⟨y0, y1, yl⟩ := hC.b2 (List.mem_cons_of_mem _ List.mem_cons_self); obtain ⟨v0, v1, vl⟩ := hC.b2 (List.mem_cons_of_mem _ (List.mem_cons_of_mem _ (List.mem_cons_of_mem _ (List.mem_cons_of_mem _ List.mem_cons_self)))); clear hC; go_simp; first | done | with_reducible rfl)); try simp only [Act.put, List.setIfInBounds_toArray, List.set_cons_zero, List.set_cons_succ]))
                    refine calm_call _ _ (by rfl) (by rfl) ?_ ?_
                    focus
                      apply Exists.intro
                      apply Exists.intro
                      refine ⟨fun wc hC hD => ?_, fun wc hC hD => ?_⟩
                      focus (clear hD; obtain ⟨y0, y1, yl⟩ := hC.b2 (List.mem_cons_of_mem _ List.mem_cons_self); obtain ⟨v0, v1, vl⟩ := hC.b2 (List.mem_cons_of_mem _ (List.mem_cons_of_mem _ (List.mem_cons_of_mem _ (List.mem_cons_of_mem _ List.mem_cons_self)))); clear hC; go_simp; first | done | with_reducible exact ⟨rfl, rfl⟩)
                      clear hD
                      have hzc := block_lt (hC.blk _ (List.mem_cons_of_mem _ (List.mem_cons_of_mem _ (List.mem_cons_of_mem _ List.mem_cons_self))))
                      with_reducible refine (spec_write _ cur _ _ _ ((hC.ow List.mem_cons_self).at_) (right_small' HRC.out) HTS.out).mono ?_
                      intro e wx h
                      rw [HXW.out] at h
                      obtain ⟨B1, e1, B2, e2, rfl, ho, hb⟩ := h.parts
                      exact ⟨_, rfl, hb, ⟨_, _, _, _, rfl⟩, ⟨_, _, rfl, ho.base (by omega)⟩⟩
                    rintro _ ⟨B1, e1, B2, e2, rfl⟩
                    try simp only [Act.put, List.setIfInBounds_toArray, List.set_cons_zero, List.set_cons_succ]
                    repeat (first
                      | (refine calm_skip (by rfl) ?_; try simp only [Act.put, List.setIfInBounds_toArray, List.set_cons_zero, List.set_cons_succ])
                      | (refine calm_plain (by rfl) (by rfl) ?_; apply Exists.intro; refine ⟨fun wc hC hD => ?_, ?_⟩; (focus (clear hD; obtain ⟨y0, y1, yl⟩ := hC.b2 (List.mem_cons_of_mem _ List.mem_cons_self); obtain ⟨v0, v1, vl⟩ := hC.b2 (List.mem_cons_of_mem _ (List.mem_cons_of_mem _ (List.mem_cons_of_mem _ (List.mem_cons_of_mem _ List.mem_cons_self)))); clear hC; go_simp; first | done | with_reducible rfl)); try simp only [Act.put, List.setIfInBounds_toArray, List.set_cons_zero, List.set_cons_succ]))
                    refine calm_end ?_
                    intro w7 hL7 hF7
                    have hG := hF7 16
                    simp [upd, noF] at hG
                    clear hF7
                    replace HL := Lib.hid hL7
                    clear hL7
                    simp only [List.drop_succ_cons, List.drop_zero]
                    have HO := Lib.hid hG.dk
                    clear hG
                    replace HL := Lib.hid HL.out.drop
                    have HYB := Lib.hid (HL.out.blk _ List.mem_cons_self)
                    obtain ⟨p0, p1, p2, p3⟩ := box4 HYB.out
                    obtain ⟨m0, m1, m2, m3⟩ := box_frozen HYB.out
                    have hyl := block_lt HYB.out
                    have HY := Lib.hid (HL.out.blk _ (List.mem_cons_of_mem _ List.mem_cons_self))
                    obtain ⟨y0, y1⟩ := box2 HY.out
                    obtain ⟨n0, n1, _, _⟩ := box_frozen HY.out
                    obtain ⟨hfl1, hfl2⟩ := led_fill (c2 := .string x.data) (c3 := .int .i64 x.code) HL.out (by omega) (fun q hq => by
                      simp only [List.mem_cons, List.not_mem_nil, or_false] at hq
                      rcases hq with rfl | rfl | rfl | rfl <;> simp only <;> omega) (fun q hq => by
                      rw [List.mem_singleton.1 hq]; simp only; omega) HO.out
                    have HFL := Lib.hid hfl1
                    have HFO := Lib.hid hfl2
                    clear hfl1 hfl2
                    by_cases hc : x.code = 0
                    · have hcb : (x.code != 0) = false := by simp [hc]
                      have hcc : (x.code == 0) = true := by simp [hc]
                      have HOK := Lib.hid (putRun_ok HPR.out (by rw [← HX.out]; exact hc))
                      rw [← HX.out] at HOK
                      clear hc
                      go_wp2
                      go_roundw
                      case rel =>
                        refine ⟨k + 1, x.dk, B1, e1, B2, e2, by omega, by go_num, HOK.out, ?_⟩
                        refine put_round HFL.out (by omega) (fun q hq => ?_) (fun q hq => ?_) HFO.out
                        · simp only [List.mem_cons, List.not_mem_nil, or_false] at hq
                          rcases hq with rfl | rfl | rfl <;> simp only <;> omega
                        · rw [List.mem_singleton.1 hq]; simp only; omega
                      case measure => simp [intOf]; omega
                    · have hcb : (x.code != 0) = true := by simp [hc]
                      have hcc : (x.code == 0) = false := by simp [hc]
                      have hE := HRUN.out
                      rw [putRun_ill HPR.out (by rw [← HX.out]; exact hc) _ hlt, ← HX.out, if_neg hc] at hE
                      have HE := Lib.hid hE
                      clear hE hc
                      replace HL := Lib.hid HFL.out
                      have hzi := block_lt (HL.out.blk _ (List.mem_cons_of_mem _ (List.mem_cons_of_mem _ (List.mem_cons_of_mem _ List.mem_cons_self))))
                      go_wp2_with fail
                      refine (spec_illao x.code _).mono ?_
                      intro e w8 h
                      obtain ⟨K1, f1, K2, f2, rfl, ho, hb⟩ := h.parts
                      replace HL := Lib.hid (HL.out.lift hb)
                      have HOI := Lib.hid (ho.base (base' := w.heap.size + 2) (by first | omega | (simp only [World.size_alloc]; omega) | (simp only [World.size_setCell]; omega)))
                      clear h ho hb
                      have HZ := Lib.hid (HL.out.blk _ (List.mem_cons_of_mem _ (List.mem_cons_of_mem _ (List.mem_cons_of_mem _ List.mem_cons_self))))
                      have hz := block_lt HZ.out
                      obtain ⟨z0, z1, z2, z3, z4⟩ := box5 HZ.out
                      obtain ⟨k0, k1, k2, k3⟩ := box_frozen HZ.out
                      have k4 : w8.frozen? ⟨w.heap.size + 1, 4, none⟩ = false := block_free HZ.out 4
                      go_wp2
                      refine bodyPost_ret (v := .agg #[.slice K1 (illAo x.code).dk.S.length f1, .slice K2 (illAo x.code).dk.P.length f2, .string (illAo x.code).text, .int .i64 (illAo x.code).gen, .int .i64 (illAo x.code).code]) (by simp [results, Tryz.results15, go_sem, z0, z1, z2, z3, z4]) rfl ?_
                      rw [HE.out]
                      exact ⟨_, rfl, ao_done' HL.out.bel HOI.out (Nat.le_refl _) _ _ _ _ _⟩
                  · have hkn' : ¬ (k : Int) < (pn : Int) := by omega
                    by_cases hk1 : k = pn + 1
                    · have hk1' : ((k : Int) == (pn : Int) + 1) = true := by simp; omega
                      have HXW := Lib.hid (show writeDo cur 0 (headB g1 (s2 : Int) (t.size : Int)) = x from (hx.trans (putDo_head (by rw [← HPN.out]; exact hk1))).symm)
                      have HTS := Lib.hid (show (headB g1 (s2 : Int) (t.size : Int)).size ≤ 1048576 by have := head_size g1 (s2 : Int) (t.size : Int); omega)
                      clear hx hk1 hkn
                      go_wp2
                      go_upto_region 22 with fail
                      refine wp_region_calm_led_tail [(7, (fun u => u = .string (headB g1 (s2 : Int) (t.size : Int))), (fun _ _ => True)), (8, (fun u => ∃ B1 e1 B2 e2, u = .agg #[.slice B1 x.dk.S.length e1, .slice B2 x.dk.P.length e2, .string x.data, .int .i64 x.code]), fun u W => DoOw W (w.heap.size + 2) u x)] 9 (by kernel_rfl) (by kernel_rfl) (by
                        intro p hp v
                        simp only [List.mem_cons, List.not_mem_nil, or_false] at hp
                        rcases hp with rfl | rfl
                        · exact mono_true
                        · exact fun W W' hb h => h.lift hb) HL.out ?_
                      repeat (first
                        | (refine calm_skip (by rfl) ?_; try simp only [Act.put, List.setIfInBounds_toArray, List.set_cons_zero, List.set_cons_succ])
                        | (refine calm_plain (by rfl) (by rfl) ?_; apply Exists.intro; refine ⟨fun wc hC hD => ?_, ?_⟩; (focus (clear hD; obtain ⟨y0, y1, yl⟩ := hC.b2 (List.mem_cons_of_mem _ List.mem_cons_self); obtain ⟨q0, q1, q2, q3, q4, ql⟩ := hC.b5 (List.mem_cons_of_mem _ (List.mem_cons_of_mem _ List.mem_cons_self)); clear hC; go_simp; first | done | with_reducible rfl)); try simp only [Act.put, List.setIfInBounds_toArray, List.set_cons_zero, List.set_cons_succ]))
                      refine calm_call _ _ (by rfl) (by rfl) ?_ ?_
                      focus
                        apply Exists.intro
                        apply Exists.intro
                        refine ⟨fun wc hC hD => ?_, fun wc hC hD => ?_⟩
                        focus (clear hD; obtain ⟨y0, y1, yl⟩ := hC.b2 (List.mem_cons_of_mem _ List.mem_cons_self); obtain ⟨q0, q1, q2, q3, q4, ql⟩ := hC.b5 (List.mem_cons_of_mem _ (List.mem_cons_of_mem _ List.mem_cons_self)); clear hC; go_simp; first | done | with_reducible exact ⟨rfl, rfl⟩)
                        clear hD
                        with_reducible refine (spec_head g1 (s2 : Int) (t.size : Int) _ HGI.out HGJ.out HGK.out).mono ?_
                        rintro e wx ⟨rfl, hb⟩
                        exact ⟨_, rfl, hb, rfl, trivial⟩
                      rintro _ rfl
                      try simp only [Act.put, List.setIfInBounds_toArray, List.set_cons_zero, List.set_cons_succ]
                      repeat (first
                        | (refine calm_skip (by rfl) ?_; try simp only [Act.put, List.setIfInBounds_toArray, List.set_cons_zero, List.set_cons_succ])
                        | (refine calm_plain (by rfl) (by rfl) ?_; apply Exists.intro; refine ⟨fun wc hC hD => ?_, ?_⟩; (focus (clear hD; obtain ⟨y0, y1, yl⟩ := hC.b2 (List.mem_cons_of_mem _ List.mem_cons_self); obtain ⟨q0, q1, q2, q3, q4, ql⟩ := hC.b5 (List.mem_cons_of_mem _ (List.mem_cons_of_mem _ List.mem_cons_self)); clear hC; go_simp; first | done | with_reducible rfl)); try simp only [Act.put, List.setIfInBounds_toArray, List.set_cons_zero, List.set_cons_succ]))
                      refine calm_call _ _ (by rfl) (by rfl) ?_ ?_
                      focus
                        apply Exists.intro
                        apply Exists.intro
                        refine ⟨fun wc hC hD => ?_, fun wc hC hD => ?_⟩
                        focus (clear hD; obtain ⟨y0, y1, yl⟩ := hC.b2 (List.mem_cons_of_mem _ List.mem_cons_self); obtain ⟨q0, q1, q2, q3, q4, ql⟩ := hC.b5 (List.mem_cons_of_mem _ (List.mem_cons_of_mem _ List.mem_cons_self)); clear hC; go_simp; first | done | with_reducible exact ⟨rfl, rfl⟩)
                        clear hD
                        have hzc := block_lt (hC.blk _ (List.mem_cons_of_mem _ (List.mem_cons_of_mem _ (List.mem_cons_of_mem _ List.mem_cons_self))))
                        with_reducible refine (spec_write _ cur _ _ _ ((hC.ow List.mem_cons_self).at_) (right_small' HRC.out) HTS.out).mono ?_
                        intro e wx h
                        rw [HXW.out] at h
                        obtain ⟨B1, e1, B2, e2, rfl, ho, hb⟩ := h.parts
                        exact ⟨_, rfl, hb, ⟨_, _, _, _, rfl⟩, ⟨_, _, rfl, ho.base (by omega)⟩⟩
                      rintro _ ⟨B1, e1, B2, e2, rfl⟩
                      try simp only [Act.put, List.setIfInBounds_toArray, List.set_cons_zero, List.set_cons_succ]
                      repeat (first
                        | (refine calm_skip (by rfl) ?_; try simp only [Act.put, List.setIfInBounds_toArray, List.set_cons_zero, List.set_cons_succ])
                        | (refine calm_plain (by rfl) (by rfl) ?_; apply Exists.intro; refine ⟨fun wc hC hD => ?_, ?_⟩; (focus (clear hD; obtain ⟨y0, y1, yl⟩ := hC.b2 (List.mem_cons_of_mem _ List.mem_cons_self); obtain ⟨q0, q1, q2, q3, q4, ql⟩ := hC.b5 (List.mem_cons_of_mem _ (List.mem_cons_of_mem _ List.mem_cons_self)); clear hC; go_simp; first | done | with_reducible rfl)); try simp only [Act.put, List.setIfInBounds_toArray, List.set_cons_zero, List.set_cons_succ]))
                      refine calm_end ?_
                      intro w7 hL7 hF7
                      have hG := hF7 8
                      simp [upd, noF] at hG
                      clear hF7
                      replace HL := Lib.hid hL7
                      clear hL7
                      simp only [List.drop_succ_cons, List.drop_zero]
                      have HO := Lib.hid hG.dk
                      clear hG
                      replace HL := Lib.hid HL.out.drop
                      have HYB := Lib.hid (HL.out.blk _ List.mem_cons_self)
                      obtain ⟨p0, p1, p2, p3⟩ := box4 HYB.out
                      obtain ⟨m0, m1, m2, m3⟩ := box_frozen HYB.out
                      have hyl := block_lt HYB.out
                      have HY := Lib.hid (HL.out.blk _ (List.mem_cons_of_mem _ List.mem_cons_self))
                      obtain ⟨y0, y1⟩ := box2 HY.out
                      obtain ⟨n0, n1, _, _⟩ := box_frozen HY.out
                      obtain ⟨hfl1, hfl2⟩ := led_fill (c2 := .string x.data) (c3 := .int .i64 x.code) HL.out (by omega) (fun q hq => by
                        simp only [List.mem_cons, List.not_mem_nil, or_false] at hq
                        rcases hq with rfl | rfl | rfl | rfl <;> simp only <;> omega) (fun q hq => by
                        rw [List.mem_singleton.1 hq]; simp only; omega) HO.out
                      have HFL := Lib.hid hfl1
                      have HFO := Lib.hid hfl2
                      clear hfl1 hfl2
                      by_cases hc : x.code = 0
                      · have hcb : (x.code != 0) = false := by simp [hc]
                        have hcc : (x.code == 0) = true := by simp [hc]
                        have HOK := Lib.hid (putRun_ok HPR.out (by rw [← HX.out]; exact hc))
                        rw [← HX.out] at HOK
                        clear hc
                        go_wp2
                        go_roundw
                        case rel =>
                          refine ⟨k + 1, x.dk, B1, e1, B2, e2, by omega, by go_num, HOK.out, ?_⟩
                          refine put_round HFL.out (by omega) (fun q hq => ?_) (fun q hq => ?_) HFO.out
                          · simp only [List.mem_cons, List.not_mem_nil, or_false] at hq
                            rcases hq with rfl | rfl | rfl <;> simp only <;> omega
                          · rw [List.mem_singleton.1 hq]; simp only; omega
                        case measure => simp [intOf]; omega
                      · have hcb : (x.code != 0) = true := by simp [hc]
                        have hcc : (x.code == 0) = false := by simp [hc]
                        have hE := HRUN.out
                        rw [putRun_ill HPR.out (by rw [← HX.out]; exact hc) _ hlt, ← HX.out, if_neg hc] at hE
                        have HE := Lib.hid hE
                        clear hE hc
                        replace HL := Lib.hid HFL.out
                        have hzi := block_lt (HL.out.blk _ (List.mem_cons_of_mem _ (List.mem_cons_of_mem _ (List.mem_cons_of_mem _ List.mem_cons_self))))
                        go_wp2_with fail
                        refine (spec_illao x.code _).mono ?_
                        intro e w8 h
                        obtain ⟨K1, f1, K2, f2, rfl, ho, hb⟩ := h.parts
                        replace HL := Lib.hid (HL.out.lift hb)
                        have HOI := Lib.hid (ho.base (base' := w.heap.size + 2) (by first | omega | (simp only [World.size_alloc]; omega) | (simp only [World.size_setCell]; omega)))
                        clear h ho hb
                        have HZ := Lib.hid (HL.out.blk _ (List.mem_cons_of_mem _ (List.mem_cons_of_mem _ (List.mem_cons_of_mem _ List.mem_cons_self))))
                        have hz := block_lt HZ.out
                        obtain ⟨z0, z1, z2, z3, z4⟩ := box5 HZ.out
                        obtain ⟨k0, k1, k2, k3⟩ := box_frozen HZ.out
                        have k4 : w8.frozen? ⟨w.heap.size + 1, 4, none⟩ = false := block_free HZ.out 4
                        go_wp2
                        refine bodyPost_ret (v := .agg #[.slice K1 (illAo x.code).dk.S.length f1, .slice K2 (illAo x.code).dk.P.length f2, .string (illAo x.code).text, .int .i64 (illAo x.code).gen, .int .i64 (illAo x.code).code]) (by simp [results, Tryz.results15, go_sem, z0, z1, z2, z3, z4]) rfl ?_
                        rw [HE.out]
                        exact ⟨_, rfl, ao_done' HL.out.bel HOI.out (Nat.le_refl _) _ _ _ _ _⟩
                    · have hk1' : ((k : Int) == (pn : Int) + 1) = false := by simp; omega
                      have HXF := Lib.hid (show flushDo cur = x from (hx.trans (putDo_flush (by rw [← HPN.out]; exact hkn) (by rw [← HPN.out]; exact hk1))).symm)
                      clear hx hk1 hkn
                      obtain ⟨y0, y1, yl⟩ := HL.out.b2 (List.mem_cons_of_mem _ List.mem_cons_self)
                      go_wp2_with fail
                      refine (spec_flush _ cur _ ((HL.out.ow List.mem_cons_self).at_) (right_small' HRC.out)).mono ?_
                      intro e w7 h
                      rw [HXF.out] at h
                      have hzc := block_lt (HL.out.blk _ (List.mem_cons_of_mem _ (List.mem_cons_of_mem _ (List.mem_cons_of_mem _ List.mem_cons_self))))
                      obtain ⟨B1, e1', B2, e2', rfl, ho, hb⟩ := h.parts
                      replace HL := Lib.hid (HL.out.lift hb)
                      have hG : DoOw w7 (w.heap.size + 2) (.agg #[.slice B1 x.dk.S.length e1', .slice B2 x.dk.P.length e2', .string x.data, .int .i64 x.code]) x := ⟨_, _, rfl, ho.base (by omega)⟩
                      clear h ho hb y0 y1 yl
                      have HO := Lib.hid hG.dk
                      clear hG
                      replace HL := Lib.hid HL.out.drop
                      have HYB := Lib.hid (HL.out.blk _ List.mem_cons_self)
                      obtain ⟨p0, p1, p2, p3⟩ := box4 HYB.out
                      obtain ⟨m0, m1, m2, m3⟩ := box_frozen HYB.out
                      have hyl := block_lt HYB.out
                      have HY := Lib.hid (HL.out.blk _ (List.mem_cons_of_mem _ List.mem_cons_self))
                      obtain ⟨y0, y1⟩ := box2 HY.out
                      obtain ⟨n0, n1, _, _⟩ := box_frozen HY.out
                      obtain ⟨hfl1, hfl2⟩ := led_fill (c2 := .string x.data) (c3 := .int .i64 x.code) HL.out (by omega) (fun q hq => by
                        simp only [List.mem_cons, List.not_mem_nil, or_false] at hq
                        rcases hq with rfl | rfl | rfl | rfl <;> simp only <;> omega) (fun q hq => by
                        rw [List.mem_singleton.1 hq]; simp only; omega) HO.out
                      have HFL := Lib.hid hfl1
                      have HFO := Lib.hid hfl2
                      clear hfl1 hfl2
                      by_cases hc : x.code = 0
                      · have hcb : (x.code != 0) = false := by simp [hc]
                        have hcc : (x.code == 0) = true := by simp [hc]
                        have HOK := Lib.hid (putRun_ok HPR.out (by rw [← HX.out]; exact hc))
                        rw [← HX.out] at HOK
                        clear hc
                        go_wp2
                        go_roundw
                        case rel =>
                          refine ⟨k + 1, x.dk, B1, e1', B2, e2', by omega, by go_num, HOK.out, ?_⟩
                          refine put_round HFL.out (by omega) (fun q hq => ?_) (fun q hq => ?_) HFO.out
                          · simp only [List.mem_cons, List.not_mem_nil, or_false] at hq
                            rcases hq with rfl | rfl | rfl <;> simp only <;> omega
                          · rw [List.mem_singleton.1 hq]; simp only; omega
                        case measure => simp [intOf]; omega
                      · have hcb : (x.code != 0) = true := by simp [hc]
                        have hcc : (x.code == 0) = false := by simp [hc]
                        have hE := HRUN.out
                        rw [putRun_ill HPR.out (by rw [← HX.out]; exact hc) _ hlt, ← HX.out, if_neg hc] at hE
                        have HE := Lib.hid hE
                        clear hE hc
                        replace HL := Lib.hid HFL.out
                        have hzi := block_lt (HL.out.blk _ (List.mem_cons_of_mem _ (List.mem_cons_of_mem _ (List.mem_cons_of_mem _ List.mem_cons_self))))
                        go_wp2_with fail
                        refine (spec_illao x.code _).mono ?_
                        intro e w8 h
                        obtain ⟨K1, f1, K2, f2, rfl, ho, hb⟩ := h.parts
                        replace HL := Lib.hid (HL.out.lift hb)
                        have HOI := Lib.hid (ho.base (base' := w.heap.size + 2) (by first | omega | (simp only [World.size_alloc]; omega) | (simp only [World.size_setCell]; omega)))
                        clear h ho hb
                        have HZ := Lib.hid (HL.out.blk _ (List.mem_cons_of_mem _ (List.mem_cons_of_mem _ (List.mem_cons_of_mem _ List.mem_cons_self))))
                        have hz := block_lt HZ.out
                        obtain ⟨z0, z1, z2, z3, z4⟩ := box5 HZ.out
                        obtain ⟨k0, k1, k2, k3⟩ := box_frozen HZ.out
                        have k4 : w8.frozen? ⟨w.heap.size + 1, 4, none⟩ = false := block_free HZ.out 4
                        go_wp2
                        refine bodyPost_ret (v := .agg #[.slice K1 (illAo x.code).dk.S.length f1, .slice K2 (illAo x.code).dk.P.length f2, .string (illAo x.code).text, .int .i64 (illAo x.code).gen, .int .i64 (illAo x.code).code]) (by simp [results, Tryz.results15, go_sem, z0, z1, z2, z3, z4]) rfl ?_
                        rw [HE.out]
                        exact ⟨_, rfl, ao_done' HL.out.bel HOI.out (Nat.le_refl _) _ _ _ _ _⟩
                · have hlt' : ¬ (k : Int) < min steps ((pn : Int) + 3) := fun h => hlt ((HLIM.out k).1 h)
                  have hkn : k = putN t steps := by omega
                  have hE := HRUN.out
                  rw [← hkn, HPR.out] at hE
                  simp only [if_pos] at hE
                  have HE := Lib.hid hE
                  clear hE hlt hk hkn
                  obtain ⟨y0, y1, yl⟩ := HL.out.b2 List.mem_cons_self
                  have HZ := Lib.hid (HL.out.blk _ (List.mem_cons_of_mem _ (List.mem_cons_of_mem _ List.mem_cons_self)))
                  have hz := block_lt HZ.out
                  obtain ⟨z0, z1, z2, z3, z4⟩ := box5 HZ.out
                  obtain ⟨k0, k1, k2, k3⟩ := box_frozen HZ.out
                  have k4 : wr.frozen? ⟨w.heap.size + 1, 4, none⟩ = false := block_free HZ.out 4
                  by_cases hl1 : (k : Int) < (pn : Int) + 3
                  · have hl2 : ¬ (k : Int) < steps := by omega
                    clear hlt'
                    go_wp2
                    refine bodyPost_ret (v := .agg #[.slice E1 cur.S.length u1, .slice E2 cur.P.length u2, .string ⟨#[]⟩, .int .i64 0, .int .i64 0]) (by simp [results, Tryz.results15, go_sem, z0, z1, z2, z3, z4]) rfl ?_
                    rw [HE.out]
                    exact ⟨_, rfl, ao_done' (o := ⟨cur, ⟨#[]⟩, 0, 0⟩) HL.out.bel (HL.out.ow List.mem_cons_self) (Nat.le_refl _) _ _ _ _ _⟩
                  · clear hlt'
                    go_wp2
                    refine bodyPost_ret (v := .agg #[.slice E1 cur.S.length u1, .slice E2 cur.P.length u2, .string ⟨#[]⟩, .int .i64 0, .int .i64 0]) (by simp [results, Tryz.results15, go_sem, z0, z1, z2, z3, z4]) rfl ?_
                    rw [HE.out]
                    exact ⟨_, rfl, ao_done' (o := ⟨cur, ⟨#[]⟩, 0, 0⟩) HL.out.bel (HL.out.ow List.mem_cons_self) (Nat.le_refl _) _ _ _ _ _⟩
        · obtain ⟨i, hi, hfi⟩ : ∃ i, i < partsN n ∧ ¬ fullAt d (firstN d s) n i := by
            apply Classical.byContradiction
            intro h'
            exact hfull fun i hi => Classical.byContradiction fun hf => h' ⟨i, hi, hf⟩
          have hA := readAo_sum HRR.out hse hi hfi
          rw [hA]
          have HE := Lib.hid (putAo_read (steps := steps) h8 HRR.out hA (by decide))
          clear hA hse hi hfi hfull
          replace HL := Lib.hid (HL.out.alloc (.cells #[.slice X1 (illAo 5).dk.S.length x1, .slice X2 (illAo 5).dk.P.length x2, .string (illAo 5).text, .int .i64 (illAo 5).gen, .int .i64 (illAo 5).code] 31))
          have hcod : (illAo 5).code = 5 := rfl
          have hzi := block_lt (HL.out.blk _ (List.mem_cons_of_mem _ List.mem_cons_self))
          go_wp2_with fail
          refine (spec_illao 5 _).mono ?_
          intro e w3 h
          obtain ⟨K1, f1, K2, f2, rfl, ho, hb⟩ := h.parts
          replace HL := Lib.hid (HL.out.lift hb)
          have HOI := Lib.hid (ho.base (base' := w.heap.size + 2) (by first | omega | (simp only [World.size_alloc]; omega) | (simp only [World.size_setCell]; omega)))
          clear h ho hb
          have HZ := Lib.hid (HL.out.blk _ (List.mem_cons_of_mem _ List.mem_cons_self))
          have hz := block_lt HZ.out
          obtain ⟨z0, z1, z2, z3, z4⟩ := box5 HZ.out
          obtain ⟨k0, k1, k2, k3⟩ := box_frozen HZ.out
          have k4 : w3.frozen? ⟨w.heap.size + 1, 4, none⟩ = false := block_free HZ.out 4
          go_wp2
          refine bodyPost_ret (v := .agg #[.slice K1 (illAo 5).dk.S.length f1, .slice K2 (illAo 5).dk.P.length f2, .string (illAo 5).text, .int .i64 (illAo 5).gen, .int .i64 5]) (by simp [results, Tryz.results15, go_sem, z0, z1, z2, z3, z4]) rfl ?_
          rw [HE.out]
          exact ⟨_, rfl, ao_done' HL.out.bel HOI.out (Nat.le_refl _) _ _ _ _ _⟩
    · rw [rightB_no hR]
      have HE := Lib.hid (putAo_form (steps := steps) h8 hR)
      have hzi := block_lt (HL.out.blk _ List.mem_cons_self)
      go_wp2_with fail
      refine (spec_illao 1 _).mono ?_
      intro e w2 h
      obtain ⟨K1, f1, K2, f2, rfl, ho, hb⟩ := h.parts
      replace HL := Lib.hid (HL.out.lift hb)
      have HOI := Lib.hid (ho.base (base' := w.heap.size + 2) (by first | omega | (simp only [World.size_alloc]; omega) | (simp only [World.size_setCell]; omega)))
      clear h ho hb
      have HZ := Lib.hid (HL.out.blk _ List.mem_cons_self)
      have hz := block_lt HZ.out
      obtain ⟨z0, z1, z2, z3, z4⟩ := box5 HZ.out
      obtain ⟨k0, k1, k2, k3⟩ := box_frozen HZ.out
      have k4 : w2.frozen? ⟨w.heap.size + 1, 4, none⟩ = false := block_free HZ.out 4
      go_wp2
      refine bodyPost_ret (v := .agg #[.slice K1 (illAo 1).dk.S.length f1, .slice K2 (illAo 1).dk.P.length f2, .string (illAo 1).text, .int .i64 (illAo 1).gen, .int .i64 (illAo 1).code]) (by simp [results, Tryz.results15, go_sem, z0, z1, z2, z3, z4]) rfl ?_
      rw [HE.out]
      exact ⟨_, rfl, ao_done' HL.out.bel HOI.out (Nat.le_refl _) _ _ _ _ _⟩

end Go.Proofs.YthchlfllcnlmjaaGreatDoor
