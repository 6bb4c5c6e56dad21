/-
  Contract of the program's putStep.
-/
import Derived.Test.YthchlfllcnlmjaaGreatDoorPutM
import Derived.Test.YthchlfllcnlmjaaGreatDoorFirst
import Derived.Test.YthchlfllcnlmjaaGreatDoorFormatS
namespace Go.Proofs.YthchlfllcnlmjaaGreatDoor
open Go.ChangeShapes Go.WideShapes Go.ChangeAt Go.RowKit

theorem DoOw.lift {w w' : World} {base : Nat} {v : Value} {o : Do} (h : DoOw w base v o) (hb : Below w.heap.size w w') : DoOw w' base v o := by
  obtain ⟨vs, vp, rfl, h⟩ := h
  exact ⟨vs, vp, rfl, h.lift hb⟩
theorem DoOw.dk {w : World} {base : Nat} {s p : Value} {t : ByteArray} {c : Int} {o : Do} (h : DoOw w base (.agg #[s, p, .string t, .int .i64 c]) o) : DkOw w base (.agg #[s, p]) o.dk := by
  obtain ⟨vs, vp, e, h⟩ := h
  simp only [Value.agg.injEq, Array.mk.injEq, List.cons.injEq, and_true] at e
  obtain ⟨rfl, rfl, _⟩ := e
  exact h
theorem led_three (w : World) (o1 o2 o3 : Obj) {v : Value} {d : Dk} (hv : DkAt w w.heap.size v d) : Led w (((w.alloc o1).alloc o2).alloc o3) [(w.heap.size + 2, o3), (w.heap.size + 1, o2), (w.heap.size, o1)] [(w.heap.size, v, d)] [] := by
  have h := (led_two w o1 o2 hv).alloc o3
  rwa [show ((w.alloc o1).alloc o2).heap.size = w.heap.size + 2 by simp only [World.size_alloc]] at h
/-- The result's box is written. -/
theorem do_done {w W : World} (h : Below w.heap.size w W) {x : Do} {B1 B2 : Option Addr} {e1 e2 base : Nat} (ho : DoOw W base (.agg #[.slice B1 x.dk.S.length e1, .slice B2 x.dk.P.length e2, .string x.data, .int .i64 x.code]) x) (hb : w.heap.size + 3 ≤ base) (y0 y1 y2 y3 : Value) :
    OwnsDo w x (.returned (.agg #[.slice B1 x.dk.S.length e1, .slice B2 x.dk.P.length e2, .string x.data, .int .i64 x.code])) ((((W.setCell ⟨w.heap.size + 2, 0, none⟩ y0).setCell ⟨w.heap.size + 2, 1, none⟩ y1).setCell ⟨w.heap.size + 2, 2, none⟩ y2).setCell ⟨w.heap.size + 2, 3, none⟩ y3) := by
  refine ⟨_, rfl, ⟨_, _, rfl, ?_⟩, ?_⟩
  · refine DkOw.base (base := base) ?_ (by omega)
    repeat (refine DkOw.far ?_ (by simp only; omega) _)
    exact ho.dk
  · repeat (refine Below.setCell ?_ (by simp only; omega) _)
    exact h

set_option maxRecDepth 100000 in
set_option maxHeartbeats 4000000 in
theorem impl_putstep (v : Value) (d : Dk) (f k s : Nat) (g : Int) (t : ByteArray) (w : World) (hv : DkAt w w.heap.size v d) (hR : Right d) (hs : s ≤ 1) (hf : f = firstN d s) (ht : t.size ≤ 2016) (hg : I64 g) (hk : k ≤ 200) :
    Calls Tryz.prog 40 #[v, .agg #[.int .i64 g, .int .i64 (s : Int), .int .i64 (t.size : Int)], .string t, .int .i64 (k : Int)] w (OwnsDo w (putDo f g (s : Int) t k d)) := by
  obtain ⟨vs, vp, rfl, hs', hp⟩ := hv
  obtain ⟨A1, c1, rfl⟩ := hs'.form
  obtain ⟨A2, c2, rfl⟩ := hp.form
  have HL := Lib.hid (led_three w (.cells #[.slice A1 d.S.length c1, .slice A2 d.P.length c2] 26) (.cells #[.int .i64 g, .int .i64 (s : Int), .int .i64 (t.size : Int)] 58) (.cells #[.slice none 0 0, .slice none 0 0, .string ⟨#[]⟩, .int .i64 0] 68) (d := d) ⟨_, _, rfl, hs', hp⟩)
  have HRR := Lib.hid hR
  have HI := Lib.hid (show I64 g ∧ I64 (s : Int) ∧ I64 (t.size : Int) from ⟨hg, ⟨by omega, by omega⟩, ⟨by omega, by omega⟩⟩)
  have HFI := Lib.hid (fun W => impl_first A1 (.slice A2 d.P.length c2) c1 s d W hR.1 hR.2.1 hs)
  rw [← hf] at HFI
  have HSEC := Lib.hid (fun W => impl_sectors t.size W (by omega))
  have hfl : f ≤ 64 := by
    have h1 := hR.2.1
    unfold firstN at hf
    have : s * halfN d ≤ 1 * halfN d := Nat.mul_le_mul_right _ hs
    unfold halfN at *
    omega
  obtain ⟨pn, hpn⟩ : ∃ x, x = partsN t.size := ⟨_, rfl⟩
  have HPN := Lib.hid hpn
  rw [← hpn] at HSEC
  have hpl : pn ≤ 32 := by rw [hpn]; unfold partsN; omega
  have HPM := Lib.hid (show k < pn → 64 * k < t.size by rw [hpn]; unfold partsN; omega)
  clear hs' hp hR hf hpn hg
  have hw1 : IntKind.i64.wrap ((k : Int) * 64) = (k : Int) * 64 := IntWalk.i64_in _ (by omega)
  have hw2 : IntKind.i64.wrap ((k : Int) * 64 + 64) = (k : Int) * 64 + 64 := IntWalk.i64_in _ (by omega)
  have hw3 : IntKind.i64.wrap ((f : Int) + (k : Int)) = (f : Int) + (k : Int) := IntWalk.i64_in _ (by omega)
  have hw4 : IntKind.i64.wrap ((pn : Int) + 1) = (pn : Int) + 1 := IntWalk.i64_in _ (by omega)
  go_enter Tryz.func40, Tryz.ntmps40
  obtain ⟨q0, q1, q2, ql⟩ := HL.out.b3 (List.mem_cons_of_mem _ List.mem_cons_self)
  go_wp2_with fail
  refine (HSEC.out _).mono ?_
  rintro e w1 ⟨rfl, hb⟩
  replace HL := Lib.hid (HL.out.lift hb)
  clear hb q0 q1 q2 ql
  by_cases hkn : k < pn
  · have hkn' : (k : Int) < (pn : Int) := by omega
    have hkt := HPM.out hkn
    obtain ⟨he, hhe⟩ : ∃ x, x = min (64 * k + 64) t.size := ⟨_, rfl⟩
    have hmin : min ((k : Int) * 64 + 64) (t.size : Int) = (he : Int) := by omega
    have hh1 : (k : Int) * 64 ≤ (he : Int) := by omega
    have hh2 : (he : Int) ≤ (t.size : Int) := by omega
    obtain ⟨x, hx⟩ : ∃ x, x = putDo f g (s : Int) t k d := ⟨_, rfl⟩
    have HX := Lib.hid hx.symm
    have hxt := hx.trans (putDo_text (by rw [← HPN.out]; exact hkn))
    rw [← hhe] at hxt
    obtain ⟨tx, htx⟩ : ∃ x, x = t.extract (64 * k) he := ⟨_, rfl⟩
    have hex : t.extract (k * 64) he = tx := by rw [htx, Nat.mul_comm]
    rw [← htx] at hxt
    have HXW := Lib.hid (show writeDo d ((f : Int) + (k : Int)) tx = x from hxt.symm)
    have HTS := Lib.hid (show tx.size ≤ 1048576 by rw [htx, ByteArray.size_extract]; omega)
    have hsl : ∀ W : World, (Instr.slice 9 (.string t) (some (.int .i64 ((k : Int) * 64))) (some (.int .i64 (he : Int))) none).run Tryz.prog W = .ok (.string tx) W := fun W => by
      have h := run_slice_string (P := Tryz.prog) (w := W) 9 t .i64 .i64 ((k : Int) * 64) (he : Int) Tryz.underlying9 (by omega) hh1 hh2
      rw [show ((k : Int) * 64).toNat = k * 64 by omega, Int.toNat_natCast, hex] at h
      exact h
    clear hx hxt hhe htx hkn hex
    go_wp2
    go_upto_region 4 with fail
    refine wp_region_calm_led_tail [(4, (fun u => u = .int .i64 (f : Int)), fun _ _ => True), (15, (fun u => ∃ B1 e1 B2 e2, u = .agg #[.slice B1 x.dk.S.length e1, .slice B2 x.dk.P.length e2, .string x.data, .int .i64 x.code]), fun u W => DoOw W (w.heap.size + 3) u x)] 16 (by kernel_rfl) (by kernel_rfl) (by
      intro p hp v
      simp only [List.mem_cons, List.not_mem_nil, or_false] at hp
      rcases hp with rfl | rfl
      · exact mono_true
      · exact fun W W' hb h => h.lift hb) HL.out ?_
    repeat (first
      | (refine calm_skip (by rfl) ?_; try simp only [Act.put, List.setIfInBounds_toArray, List.set_cons_zero, List.set_cons_succ])
      | (refine calm_plain (by rfl) (by rfl) ?_; apply Exists.intro; refine ⟨fun wc hC hD => ?_, ?_⟩; (focus (clear hD; obtain ⟨y0, y1, yl⟩ := hC.b2 (List.mem_cons_of_mem _ (List.mem_cons_of_mem _ List.mem_cons_self)); obtain ⟨q0, q1, q2, ql⟩ := hC.b3 (List.mem_cons_of_mem _ List.mem_cons_self); clear hC; go_simp; first | done | with_reducible rfl)); try simp only [Act.put, List.setIfInBounds_toArray, List.set_cons_zero, List.set_cons_succ]))
    refine calm_call _ _ (by rfl) (by rfl) ?_ ?_
    focus
      apply Exists.intro
      apply Exists.intro
      refine ⟨fun wc hC hD => ?_, fun wc hC hD => ?_⟩
      focus (clear hD; obtain ⟨y0, y1, yl⟩ := hC.b2 (List.mem_cons_of_mem _ (List.mem_cons_of_mem _ List.mem_cons_self)); obtain ⟨q0, q1, q2, ql⟩ := hC.b3 (List.mem_cons_of_mem _ List.mem_cons_self); clear hC; go_simp; first | done | with_reducible exact ⟨rfl, rfl⟩)
      clear hD
      with_reducible refine (HFI.out _).mono ?_
      rintro e wx ⟨rfl, hb⟩
      exact ⟨_, rfl, hb, rfl, trivial⟩
    rintro _ rfl
    try simp only [Act.put, List.setIfInBounds_toArray, List.set_cons_zero, List.set_cons_succ]
    repeat (first
      | (refine calm_skip (by rfl) ?_; try simp only [Act.put, List.setIfInBounds_toArray, List.set_cons_zero, List.set_cons_succ])
      | (refine calm_plain (by rfl) (by rfl) ?_; apply Exists.intro; refine ⟨fun wc hC hD => ?_, ?_⟩; (focus (clear hD; obtain ⟨y0, y1, yl⟩ := hC.b2 (List.mem_cons_of_mem _ (List.mem_cons_of_mem _ List.mem_cons_self)); obtain ⟨q0, q1, q2, ql⟩ := hC.b3 (List.mem_cons_of_mem _ List.mem_cons_self); clear hC; go_simp; first | done | with_reducible rfl)); try simp only [Act.put, List.setIfInBounds_toArray, List.set_cons_zero, List.set_cons_succ]))
    refine calm_call _ _ (by rfl) (by rfl) ?_ ?_
    focus
      apply Exists.intro
      apply Exists.intro
      refine ⟨fun wc hC hD => ?_, fun wc hC hD => ?_⟩
      focus (clear hD; obtain ⟨y0, y1, yl⟩ := hC.b2 (List.mem_cons_of_mem _ (List.mem_cons_of_mem _ List.mem_cons_self)); obtain ⟨q0, q1, q2, ql⟩ := hC.b3 (List.mem_cons_of_mem _ List.mem_cons_self); clear hC; go_simp; first | done | with_reducible exact ⟨rfl, rfl⟩)
      clear hD
      have hzc := block_lt (hC.blk _ List.mem_cons_self)
      with_reducible refine (impl_write _ d _ _ _ (hC.at_ List.mem_cons_self) (right_small' HRR.out) HTS.out).mono ?_
      intro e wx h
      rw [HXW.out] at h
      obtain ⟨B1, e1, B2, e2, rfl, ho, hb⟩ := h.parts
      exact ⟨_, rfl, hb, ⟨_, _, _, _, rfl⟩, ⟨_, _, rfl, ho.base (by omega)⟩⟩
    rintro _ ⟨B1, e1, B2, e2, rfl⟩
    try simp only [Act.put, List.setIfInBounds_toArray, List.set_cons_zero, List.set_cons_succ]
    repeat (first
      | (refine calm_skip (by rfl) ?_; try simp only [Act.put, List.setIfInBounds_toArray, List.set_cons_zero, List.set_cons_succ])
      | (refine calm_plain (by rfl) (by rfl) ?_; apply Exists.intro; refine ⟨fun wc hC hD => ?_, ?_⟩; (focus (clear hD; obtain ⟨y0, y1, yl⟩ := hC.b2 (List.mem_cons_of_mem _ (List.mem_cons_of_mem _ List.mem_cons_self)); obtain ⟨q0, q1, q2, ql⟩ := hC.b3 (List.mem_cons_of_mem _ List.mem_cons_self); clear hC; go_simp; first | done | with_reducible rfl)); try simp only [Act.put, List.setIfInBounds_toArray, List.set_cons_zero, List.set_cons_succ]))
    refine calm_end ?_
    intro w7 hL7 hF7
    have hG := hF7 15
    simp [upd, noF] at hG
    clear hF7
    replace HL := Lib.hid hL7
    clear hL7
    simp only [List.drop_succ_cons, List.drop_zero]
    have HO := Lib.hid hG
    clear hG
    have HZ := Lib.hid (HL.out.blk _ List.mem_cons_self)
    have hz := block_lt HZ.out
    obtain ⟨z0, z1, z2, z3⟩ := box4 HZ.out
    obtain ⟨k0, k1, k2, k3⟩ := box_frozen HZ.out
    go_wp2
    refine bodyPost_ret (v := .agg #[.slice B1 x.dk.S.length e1, .slice B2 x.dk.P.length e2, .string x.data, .int .i64 x.code]) (by simp [results, Tryz.results40, go_sem, z0, z1, z2, z3]) rfl ?_
    rw [HX.out]
    exact do_done HL.out.bel HO.out (Nat.le_refl _) _ _ _ _
  · have hkn' : ¬ (k : Int) < (pn : Int) := by omega
    by_cases hk1 : k = pn + 1
    · have hk1' : ((k : Int) == (pn : Int) + 1) = true := by simp; omega
      obtain ⟨x, hx⟩ : ∃ x, x = putDo f g (s : Int) t k d := ⟨_, rfl⟩
      have HX := Lib.hid hx.symm
      have HXW := Lib.hid (show writeDo d 0 (headB g (s : Int) (t.size : Int)) = x from (hx.trans (putDo_head (by rw [← HPN.out]; exact hk1))).symm)
      have HTS := Lib.hid (show (headB g (s : Int) (t.size : Int)).size ≤ 1048576 by have := head_size g (s : Int) (t.size : Int); omega)
      clear hx hk1 hkn
      go_wp2
      go_upto_region 6 with fail
      refine wp_region_calm_led_tail [(2, (fun u => u = .string (headB g (s : Int) (t.size : Int))), fun _ _ => True), (3, (fun u => ∃ B1 e1 B2 e2, u = .agg #[.slice B1 x.dk.S.length e1, .slice B2 x.dk.P.length e2, .string x.data, .int .i64 x.code]), fun u W => DoOw W (w.heap.size + 3) u x)] 4 (by kernel_rfl) (by kernel_rfl) (by
        intro p hp v
        simp only [List.mem_cons, List.not_mem_nil, or_false] at hp
        rcases hp with rfl | rfl
        · exact mono_true
        · exact fun W W' hb h => h.lift hb) HL.out ?_
      repeat (first
        | (refine calm_skip (by rfl) ?_; try simp only [Act.put, List.setIfInBounds_toArray, List.set_cons_zero, List.set_cons_succ])
        | (refine calm_plain (by rfl) (by rfl) ?_; apply Exists.intro; refine ⟨fun wc hC hD => ?_, ?_⟩; (focus (clear hD; obtain ⟨y0, y1, yl⟩ := hC.b2 (List.mem_cons_of_mem _ (List.mem_cons_of_mem _ List.mem_cons_self)); obtain ⟨q0, q1, q2, ql⟩ := hC.b3 (List.mem_cons_of_mem _ List.mem_cons_self); clear hC; go_simp; first | done | with_reducible rfl)); try simp only [Act.put, List.setIfInBounds_toArray, List.set_cons_zero, List.set_cons_succ]))
      refine calm_call _ _ (by rfl) (by rfl) ?_ ?_
      focus
        apply Exists.intro
        apply Exists.intro
        refine ⟨fun wc hC hD => ?_, fun wc hC hD => ?_⟩
        focus (clear hD; obtain ⟨y0, y1, yl⟩ := hC.b2 (List.mem_cons_of_mem _ (List.mem_cons_of_mem _ List.mem_cons_self)); obtain ⟨q0, q1, q2, ql⟩ := hC.b3 (List.mem_cons_of_mem _ List.mem_cons_self); clear hC; go_simp; first | done | with_reducible exact ⟨rfl, rfl⟩)
        clear hD
        with_reducible refine (impl_sealed g (s : Int) (t.size : Int) _ HI.out.1 HI.out.2.1 HI.out.2.2).mono ?_
        rintro e wx ⟨rfl, hb⟩
        exact ⟨_, rfl, hb, rfl, trivial⟩
      rintro _ rfl
      try simp only [Act.put, List.setIfInBounds_toArray, List.set_cons_zero, List.set_cons_succ]
      repeat (first
        | (refine calm_skip (by rfl) ?_; try simp only [Act.put, List.setIfInBounds_toArray, List.set_cons_zero, List.set_cons_succ])
        | (refine calm_plain (by rfl) (by rfl) ?_; apply Exists.intro; refine ⟨fun wc hC hD => ?_, ?_⟩; (focus (clear hD; obtain ⟨y0, y1, yl⟩ := hC.b2 (List.mem_cons_of_mem _ (List.mem_cons_of_mem _ List.mem_cons_self)); obtain ⟨q0, q1, q2, ql⟩ := hC.b3 (List.mem_cons_of_mem _ List.mem_cons_self); clear hC; go_simp; first | done | with_reducible rfl)); try simp only [Act.put, List.setIfInBounds_toArray, List.set_cons_zero, List.set_cons_succ]))
      refine calm_call _ _ (by rfl) (by rfl) ?_ ?_
      focus
        apply Exists.intro
        apply Exists.intro
        refine ⟨fun wc hC hD => ?_, fun wc hC hD => ?_⟩
        focus (clear hD; obtain ⟨y0, y1, yl⟩ := hC.b2 (List.mem_cons_of_mem _ (List.mem_cons_of_mem _ List.mem_cons_self)); obtain ⟨q0, q1, q2, ql⟩ := hC.b3 (List.mem_cons_of_mem _ List.mem_cons_self); clear hC; go_simp; first | done | with_reducible exact ⟨rfl, rfl⟩)
        clear hD
        have hzc := block_lt (hC.blk _ List.mem_cons_self)
        with_reducible refine (impl_write _ d _ _ _ (hC.at_ List.mem_cons_self) (right_small' HRR.out) HTS.out).mono ?_
        intro e wx h
        rw [HXW.out] at h
        obtain ⟨B1, e1, B2, e2, rfl, ho, hb⟩ := h.parts
        exact ⟨_, rfl, hb, ⟨_, _, _, _, rfl⟩, ⟨_, _, rfl, ho.base (by omega)⟩⟩
      rintro _ ⟨B1, e1, B2, e2, rfl⟩
      try simp only [Act.put, List.setIfInBounds_toArray, List.set_cons_zero, List.set_cons_succ]
      repeat (first
        | (refine calm_skip (by rfl) ?_; try simp only [Act.put, List.setIfInBounds_toArray, List.set_cons_zero, List.set_cons_succ])
        | (refine calm_plain (by rfl) (by rfl) ?_; apply Exists.intro; refine ⟨fun wc hC hD => ?_, ?_⟩; (focus (clear hD; obtain ⟨y0, y1, yl⟩ := hC.b2 (List.mem_cons_of_mem _ (List.mem_cons_of_mem _ List.mem_cons_self)); obtain ⟨q0, q1, q2, ql⟩ := hC.b3 (List.mem_cons_of_mem _ List.mem_cons_self); clear hC; go_simp; first | done | with_reducible rfl)); try simp only [Act.put, List.setIfInBounds_toArray, List.set_cons_zero, List.set_cons_succ]))
      refine calm_end ?_
      intro w7 hL7 hF7
      have hG := hF7 3
      simp [upd, noF] at hG
      clear hF7
      replace HL := Lib.hid hL7
      clear hL7
      simp only [List.drop_succ_cons, List.drop_zero]
      have HO := Lib.hid hG
      clear hG
      have HZ := Lib.hid (HL.out.blk _ List.mem_cons_self)
      have hz := block_lt HZ.out
      obtain ⟨z0, z1, z2, z3⟩ := box4 HZ.out
      obtain ⟨k0, k1, k2, k3⟩ := box_frozen HZ.out
      go_wp2
      refine bodyPost_ret (v := .agg #[.slice B1 x.dk.S.length e1, .slice B2 x.dk.P.length e2, .string x.data, .int .i64 x.code]) (by simp [results, Tryz.results40, go_sem, z0, z1, z2, z3]) rfl ?_
      rw [HX.out]
      exact do_done HL.out.bel HO.out (Nat.le_refl _) _ _ _ _
    · have hk1' : ((k : Int) == (pn : Int) + 1) = false := by simp; omega
      obtain ⟨x, hx⟩ : ∃ x, x = putDo f g (s : Int) t k d := ⟨_, rfl⟩
      have HX := Lib.hid hx.symm
      have HXF := Lib.hid (show flushDo d = x from (hx.trans (putDo_flush (by rw [← HPN.out]; exact hkn) (by rw [← HPN.out]; exact hk1))).symm)
      clear hx hk1 hkn
      obtain ⟨y0, y1, yl⟩ := HL.out.b2 (List.mem_cons_of_mem _ (List.mem_cons_of_mem _ List.mem_cons_self))
      go_wp2_with fail
      refine (impl_flush _ d _ (HL.out.at_ List.mem_cons_self) (right_small' HRR.out)).mono ?_
      intro e w7 h
      rw [HXF.out] at h
      have hzc := block_lt (HL.out.blk _ List.mem_cons_self)
      obtain ⟨B1, e1, B2, e2, rfl, ho, hb⟩ := h.parts
      replace HL := Lib.hid (HL.out.lift hb)
      have hG : DoOw w7 (w.heap.size + 3) (.agg #[.slice B1 x.dk.S.length e1, .slice B2 x.dk.P.length e2, .string x.data, .int .i64 x.code]) x := ⟨_, _, rfl, ho.base (by omega)⟩
      clear h ho hb y0 y1 yl
      have HO := Lib.hid hG
      clear hG
      have HZ := Lib.hid (HL.out.blk _ List.mem_cons_self)
      have hz := block_lt HZ.out
      obtain ⟨z0, z1, z2, z3⟩ := box4 HZ.out
      obtain ⟨k0, k1, k2, k3⟩ := box_frozen HZ.out
      go_wp2
      refine bodyPost_ret (v := .agg #[.slice B1 x.dk.S.length e1, .slice B2 x.dk.P.length e2, .string x.data, .int .i64 x.code]) (by simp [results, Tryz.results40, go_sem, z0, z1, z2, z3]) rfl ?_
      rw [HX.out]
      exact do_done HL.out.bel HO.out (Nat.le_refl _) _ _ _ _

end Go.Proofs.YthchlfllcnlmjaaGreatDoor
