/-
  Contract of the program's AreaRead.
-/
import Derived.Test.YthchlfllcnlmjaaGreatDoorAreaOn
import Derived.Test.YthchlfllcnlmjaaGreatDoorAnew
namespace Go.Proofs.YthchlfllcnlmjaaGreatDoor
open Go.ChangeShapes Go.WideShapes Go.ChangeAt Go.RowKit

set_option maxRecDepth 100000 in
set_option maxHeartbeats 4000000 in
theorem impl_aread {a0 a1 a2 a3 : Addr} (v : Value) (d : Dk) (w : World) (hv : DkAt w w.heap.size v d) (hd : Small d) (hs : Sents w a0 a1 a2 a3) (he : ErrVar w) :
    Calls Tryz.prog 10 #[v] w (OwnsAo w (readAo d)) := by
  obtain ⟨vs, vp, rfl, hs', hp⟩ := hv
  obtain ⟨A1, c1, rfl⟩ := hs'.form
  obtain ⟨A2, c2, rfl⟩ := hp.form
  have HL := Lib.hid (led_two w (.cells #[.slice A1 d.S.length c1, .slice A2 d.P.length c2] 26) (.cells #[.slice none 0 0, .slice none 0 0, .string ⟨#[]⟩, .int .i64 0, .int .i64 0] 31) (d := d) ⟨_, _, rfl, hs', hp⟩)
  have HSM := Lib.hid hd; have HS := Lib.hid hs; have HV := Lib.hid he
  clear hs' hp hd hs he
  go_enter Tryz.func10, Tryz.ntmps10
  go_wp2_with fail
  refine (impl_areaon _ d _ (HL.out.at_ List.mem_cons_self) HSM.out (HS.out.lift HL.out.bel) (HV.out.lift HL.out.bel)).mono ?_
  rintro e w1 ⟨hb, hr⟩
  replace HL := Lib.hid (HL.out.lift hb)
  clear hb
  rcases hr with ⟨g, s, n, t, rfl, hR, hse, hE⟩ | ⟨x, y, c, hc, rfl, hE, hF⟩
  · have HE := Lib.hid hE
    clear hR hse hE
    have HZ := Lib.hid (HL.out.blk _ List.mem_cons_self)
    replace HL := Lib.hid (HL.out.alloc (.cells #[.int .i64 g, .int .i64 s, .int .i64 n] 58))
    go_wp2
    go_upto_region 4 with fail
    refine wp_region_calm_led_tail [(1, (fun u => ∃ B1 e1 B2 e2, u = .agg #[.slice B1 d.S.length e1, .slice B2 d.P.length e2]), fun u W => DkOw W (w.heap.size + 2) u d)] 6 (by kernel_rfl) (by kernel_rfl) (by intro p hp v; rw [List.mem_singleton.1 hp]; exact fun W W' hb h => h.lift hb) HL.out ?_
    repeat (first
      | (refine calm_skip (by rfl) ?_; try simp only [Act.put, List.setIfInBounds_toArray, List.set_cons_zero, List.set_cons_succ])
      | (refine calm_plain (by rfl) (by rfl) ?_; apply Exists.intro; refine ⟨fun wc hC hD => ?_, ?_⟩; (focus (clear hD; obtain ⟨y0, y1, yl⟩ := hC.b2 (List.mem_cons_of_mem _ (List.mem_cons_of_mem _ List.mem_cons_self)); obtain ⟨q0, q1, q2, ql⟩ := hC.b3 List.mem_cons_self; clear hC; go_simp; first | done | with_reducible rfl)); try simp only [Act.put, List.setIfInBounds_toArray, List.set_cons_zero, List.set_cons_succ]))
    refine calm_call _ _ (by rfl) (by rfl) ?_ ?_
    focus
      apply Exists.intro
      apply Exists.intro
      refine ⟨fun wc hC hD => ?_, fun wc hC hD => ?_⟩
      focus (clear hD; obtain ⟨y0, y1, yl⟩ := hC.b2 (List.mem_cons_of_mem _ (List.mem_cons_of_mem _ List.mem_cons_self)); obtain ⟨q0, q1, q2, ql⟩ := hC.b3 List.mem_cons_self; clear hC; go_simp; first | done | with_reducible exact ⟨rfl, rfl⟩)
      clear hD
      have hzc := block_lt (hC.blk _ (List.mem_cons_of_mem _ List.mem_cons_self))
      with_reducible refine (impl_anew _ d _ (hC.at_ List.mem_cons_self) HSM.out).mono ?_
      intro e wx h
      obtain ⟨B1, e1, B2, e2, rfl, ho, hb⟩ := h.parts
      exact ⟨_, rfl, hb, ⟨_, _, _, _, rfl⟩, ho.base (by omega)⟩
    rintro _ ⟨B1, e1, B2, e2, rfl⟩
    try simp only [Act.put, List.setIfInBounds_toArray, List.set_cons_zero, List.set_cons_succ]
    repeat (first
      | (refine calm_skip (by rfl) ?_; try simp only [Act.put, List.setIfInBounds_toArray, List.set_cons_zero, List.set_cons_succ])
      | (refine calm_plain (by rfl) (by rfl) ?_; apply Exists.intro; refine ⟨fun wc hC hD => ?_, ?_⟩; (focus (clear hD; obtain ⟨y0, y1, yl⟩ := hC.b2 (List.mem_cons_of_mem _ (List.mem_cons_of_mem _ List.mem_cons_self)); obtain ⟨q0, q1, q2, ql⟩ := hC.b3 List.mem_cons_self; clear hC; go_simp; first | done | with_reducible rfl)); try simp only [Act.put, List.setIfInBounds_toArray, List.set_cons_zero, List.set_cons_succ]))
    refine calm_end ?_
    intro w7 hL7 hF7
    have hG := hF7 1
    simp [upd, noF] at hG
    clear hF7
    replace HL := Lib.hid hL7
    clear hL7
    simp only [List.drop_succ_cons, List.drop_zero]
    have HO := Lib.hid hG
    clear hG
    have HZ := Lib.hid (HL.out.blk _ (List.mem_cons_of_mem _ List.mem_cons_self))
    have hz := block_lt HZ.out
    obtain ⟨z0, z1, z2, z3, z4⟩ := box5 HZ.out
    obtain ⟨k0, k1, k2, k3⟩ := box_frozen HZ.out
    have k4 : w7.frozen? ⟨w.heap.size + 1, 4, none⟩ = false := block_free HZ.out 4
    go_wp2
    refine bodyPost_ret (v := .agg #[.slice B1 d.S.length e1, .slice B2 d.P.length e2, .string t, .int .i64 g, .int .i64 0]) (by simp [results, Tryz.results10, go_sem, z0, z1, z2, z3, z4]) rfl ?_
    rw [HE.out]
    exact ⟨_, rfl, ao_done (o := ⟨d, t, g, 0⟩) HL.out HO.out (Nat.le_refl _) _ _ _ _ _⟩
  · have HE := Lib.hid hE
    have HF := Lib.hid hF
    clear hE hF hc
    replace HL := Lib.hid (HL.out.alloc (.cells #[.int .i64 0, .int .i64 0, .int .i64 0] 58))
    have hz0 := block_lt (HL.out.blk _ (List.mem_cons_of_mem _ List.mem_cons_self))
    go_wp2_with fail
    refine (HF.out _ (HS.out.lift HL.out.bel) (HV.out.lift HL.out.bel)).mono ?_
    intro e w3 h
    obtain ⟨B1, e1, B2, e2, rfl, ho, hb⟩ := h.parts
    replace HL := Lib.hid (HL.out.lift hb)
    have HZ := Lib.hid (HL.out.blk _ (List.mem_cons_of_mem _ List.mem_cons_self))
    have hz := block_lt HZ.out
    have HO := Lib.hid (ho.base (base' := w.heap.size + 2) (by omega))
    clear h ho hb
    obtain ⟨z0, z1, z2, z3, z4⟩ := box5 HZ.out
    obtain ⟨k0, k1, k2, k3⟩ := box_frozen HZ.out
    have k4 : w3.frozen? ⟨w.heap.size + 1, 4, none⟩ = false := block_free HZ.out 4
    go_wp2
    refine bodyPost_ret (v := .agg #[.slice B1 (illAo c).dk.S.length e1, .slice B2 (illAo c).dk.P.length e2, .string (illAo c).text, .int .i64 (illAo c).gen, .int .i64 (illAo c).code]) (by simp [results, Tryz.results10, go_sem, z0, z1, z2, z3, z4]) rfl ?_
    rw [HE.out]
    exact ⟨_, rfl, ao_done HL.out HO.out (Nat.le_refl _) _ _ _ _ _⟩

end Go.Proofs.YthchlfllcnlmjaaGreatDoor
