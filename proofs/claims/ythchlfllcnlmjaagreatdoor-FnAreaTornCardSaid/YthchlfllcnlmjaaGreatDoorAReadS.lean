/-
  Contract of the model's AreaRead.
-/
import Derived.Test.YthchlfllcnlmjaaGreatDoorFirst
import Derived.Test.YthchlfllcnlmjaaGreatDoorFormatS
import Derived.Lib.AppendStr
import Derived.Deep.DeepMust
namespace Go.Proofs.YthchlfllcnlmjaaGreatDoor
open Go.ChangeShapes Go.WideShapes Go.ChangeAt Go.RowKit

theorem _root_.Go.World.ownsRow.below_row {w w' : World} {base : Nat} {e : TypeId} {k : Nat} {v : Value} {n : Nat} {xs : List Value} (h : w.ownsRow base e k v n xs) (hb : Below w.heap.size w w') : w'.ownsRow base e k v n xs := by
  have hl := World.ownsRow.lt h
  rcases h with ⟨h0, h⟩
  refine ⟨h0, ?_⟩
  rcases h with h | ⟨g, cap, cur, rfl, h1, h2, h3⟩
  · exact .inl h
  · exact .inr ⟨g, cap, cur, rfl, h1, (hb.block g (hl g rfl).2).trans h2, h3⟩
theorem infoU8r : ∃ i, Tryz.prog.info? 5 = some i ∧ i.zero = some (.int .u8 0) ∧ i.size = 1 ∧ i.bytes = 1 := by
  have h : (Tryz.prog.info? 5).map (fun i => (i.zero, i.size, i.bytes)) = some (some (.int .u8 0), 1, 1) := by kernel_rfl
  cases hi : Tryz.prog.info? 5 with
  | none => rw [hi] at h; cases h
  | some i =>
    rw [hi] at h
    simp only [Option.map_some, Option.some.injEq, Prod.mk.injEq] at h
    exact ⟨i, rfl, h.1, h.2.1, h.2.2⟩
theorem strCells_cat (a b : ByteArray) : Lib.strCells (catB a b) = Lib.strCells a ++ Lib.strCells b := by
  unfold Lib.strCells
  rw [cat_list, List.map_append]
/-- A row of bytes that the call owns, as a text. -/
theorem conv_own {w : World} {base : Nat} {g m c : Nat} {t : ByteArray} (h : w.ownsRow base 5 1 (.slice (some ⟨g, 0, none⟩) m c) m (Lib.strCells t)) (hm : t.size = m) :
    (convert 22 9 (.slice (some ⟨g, 0, none⟩) m c)).run Tryz.prog w = .ok (.string t) w := by
  rcases h.2 with ⟨h0, _⟩ | ⟨g', cap, cur, h0, h1, h2, h3, h4, h5, h6⟩
  · cases h0
  · simp only [Value.slice.injEq, Option.some.injEq, Addr.mk.injEq, and_true, true_and] at h0
    obtain ⟨rfl, rfl⟩ := h0
    have := block_string (P := Tryz.prog) h2 22 5 9 Tryz.underlying22 Tryz.underlying5 Tryz.underlying9 t.data.toList m c (by rw [← Lib.size_eq]; exact hm) (by rw [Nat.mul_one] at h6; rw [h6]; rfl)
    exact this
/-- A row of the call's own that is not nil: its block. -/
theorem row_out {w : World} {base : Nat} {e : TypeId} {g m c : Nat} {xs : List Value} (h : w.ownsRow base e 1 (.slice (some ⟨g, 0, none⟩) m c) m xs) :
    ∃ cur, base ≤ g ∧ w.heap[g]? = some (.cells cur e (0, 0)) ∧ ∀ w' : World, w'.heap[g]? = some (.cells cur e (0, 0)) → w'.ownsRow base e 1 (.slice (some ⟨g, 0, none⟩) m c) m xs := by
  rcases h.2 with ⟨h0, _⟩ | ⟨g', cap, cur, h0, h1, h2, h3⟩
  · cases h0
  · simp only [Value.slice.injEq, Option.some.injEq, Addr.mk.injEq, and_true, true_and] at h0
    obtain ⟨rfl, rfl⟩ := h0
    exact ⟨cur, h1, h2, fun w' h' => ⟨h.1, .inr ⟨g, c, cur, rfl, h1, h', h3⟩⟩⟩

set_option maxRecDepth 100000 in
set_option maxHeartbeats 4000000 in
theorem spec_aread (v : Value) (d : Dk) (w : World) (hv : DkAt w w.heap.size v d) (hd : Small d) :
    Calls Tryz.prog 14 #[v] w (OwnsAo w (readAo d)) := by
  obtain ⟨vs, vp, rfl, hs, hp⟩ := hv
  obtain ⟨A1, c1, rfl⟩ := hs.form
  obtain ⟨A2, c2, rfl⟩ := hp.form
  have HL := Lib.hid (led_two w (.cells #[.slice A1 d.S.length c1, .slice A2 d.P.length c2] 26) (.cells #[.slice none 0 0, .slice none 0 0, .string ⟨#[]⟩, .int .i64 0, .int .i64 0] 31) (d := d) ⟨_, _, rfl, hs, hp⟩)
  have HSM := Lib.hid hd
  have hd1 := hd.1; have hd2 := hd.2.2.1
  clear hs hp hd
  go_enter Tryz.func14, Tryz.ntmps14
  go_wp2_with fail
  refine (spec_right _ d _ (HL.out.at_ List.mem_cons_self) (by omega) (by omega)).mono ?_
  rintro e w1 ⟨rfl, hb⟩
  replace HL := Lib.hid (HL.out.lift hb)
  clear hb
  obtain ⟨x0, x1, hx⟩ := HL.out.b2 (List.mem_cons_of_mem _ List.mem_cons_self)
  have HZ := Lib.hid (HL.out.blk _ List.mem_cons_self)
  have hz := block_lt HZ.out
  by_cases hR : Right d
  · rw [rightB_yes hR]
    obtain ⟨g, s, n, c, hse, hc⟩ := seen_cases (d := d)
    have HSE := Lib.hid (fun (W : World) (h : DkAt W W.heap.size (.agg #[.slice A1 d.S.length c1, .slice A2 d.P.length c2]) d) => spec_seen _ d W h hR)
    have HRR := Lib.hid hR
    clear hR
    go_wp2_with fail
    refine (HSE.out _ (HL.out.at_ List.mem_cons_self)).mono ?_
    rintro e w2 ⟨rfl, hb⟩
    rw [hse]
    replace HL := Lib.hid (HL.out.lift hb)
    clear hb x0 x1 hx HZ hz
    rcases hc with ⟨hc, rfl, rfl, rfl⟩ | ⟨rfl, hg, hgi, s, n, rfl, rfl, hs1, hn⟩
    · have HE := Lib.hid (readAo_ill HRR.out hse hc)
      have hcb : (c != 0) = true := by simp [hc]
      have hcc : (c == 0) = false := by simp [hc]
      clear hse hc
      go_wp2_with fail
      have hz0 := block_lt (HL.out.blk _ List.mem_cons_self)
      refine (spec_illao c _).mono ?_
      intro e w3 h
      obtain ⟨B1, e1, B2, e2, rfl, ho, hb⟩ := h.parts
      replace HL := Lib.hid (HL.out.lift hb)
      have HZ := Lib.hid (HL.out.blk _ List.mem_cons_self)
      have hz := block_lt HZ.out
      have HO := Lib.hid (ho.base (base' := w.heap.size + 2) (by omega))
      clear h ho hb
      obtain ⟨z0, z1, z2, z3, z4⟩ := box5 HZ.out
      obtain ⟨k0, k1, k2, k3⟩ := box_frozen HZ.out
      have k4 : w3.frozen? ⟨w.heap.size + 1, 4, none⟩ = false := block_free HZ.out 4
      go_wp2
      refine bodyPost_ret (v := .agg #[.slice B1 (illAo c).dk.S.length e1, .slice B2 (illAo c).dk.P.length e2, .string (illAo c).text, .int .i64 (illAo c).gen, .int .i64 (illAo c).code]) (by simp [results, Tryz.results14, go_sem, z0, z1, z2, z3, z4]) rfl ?_
      rw [HE.out]
      exact ⟨_, rfl, ao_done HL.out HO.out (Nat.le_refl _) _ _ _ _ _⟩
    · have hz2 := block_lt (HL.out.blk _ List.mem_cons_self)
      obtain ⟨f, hfe⟩ : ∃ f, f = firstN d s := ⟨_, rfl⟩
      have HOK := Lib.hid (readAo_ok HRR.out hse)
      have HSUM := Lib.hid (fun i => readAo_sum (i := i) HRR.out hse)
      have HFL := Lib.hid (fun i => first_lt (i := i) HRR.out hs1 hn)
      have HFI := Lib.hid (fun W => spec_first A1 (.slice A2 d.P.length c2) c1 s d W HRR.out.1 HRR.out.2.1 hs1)
      rw [← hfe] at HOK HSUM HFL HFI
      clear hse hfe
      go_wp2
      go_loopw [7, 8] (fun b i wr => ∃ (k g0 c0 m : Nat), k ≤ partsN n ∧ m = min n (64 * k) ∧ b = .slice (some ⟨g0, 0, none⟩) m c0 ∧ i = .int .i64 (k : Int) ∧ (∀ j < k, fullAt d f n j) ∧ wr.ownsRow (w.heap.size + 2) 5 1 (.slice (some ⟨g0, 0, none⟩) m c0) m (Lib.strCells (gotB d f n k)) ∧ Led w wr [(w.heap.size + 1, .cells #[.slice none 0 0, .slice none 0 0, .string ⟨#[]⟩, .int .i64 0, .int .i64 0] 31 (0, 0)), (w.heap.size, .cells #[.slice A1 d.S.length c1, .slice A2 d.P.length c2] 26 (0, 0))] [(w.heap.size, .agg #[.slice A1 d.S.length c1, .slice A2 d.P.length c2], d)] []) (fun _ i _ => partsN n + 1 - (intOf i).toNat)
      case atStart =>
        refine ⟨0, _, 0, 0, Nat.zero_le _, by omega, rfl, rfl, fun j hj => absurd hj (by omega), ⟨rfl, .inr ⟨_, 0, #[], rfl, by omega, heap_alloc_new _ _, Nat.le_refl _, Nat.zero_le _, rfl, rfl⟩⟩, HL.out.made _⟩
      case round =>
        clear HL
        obtain ⟨k, g0, c0, m, hk, hm, rfl, rfl, hf, hrow, hl⟩ := hrel
        have HL := Lib.hid hl
        have HF := Lib.hid hf
        have HROW := Lib.hid hrow
        clear hl hf hrow
        have hn2 := HRR.out.2.1
        have hn31 : n ≤ 2016 := by unfold halfN at hn; omega
        by_cases hlt : k < partsN n
        · have hm' : m = 64 * k := by unfold partsN at hlt; omega
          clear hm
          subst hm'
          have hlt2 : (64 : Int) * (k : Int) < (n : Int) := by unfold partsN at hlt; omega
          have hlt3 : ((64 * k : Nat) : Int) < (n : Int) := by omega
          obtain ⟨tk, htk⟩ : ∃ x, x = readT d (f + k) := ⟨_, rfl⟩
          have HTK := Lib.hid htk
          have hfl := HFL.out k hlt
          have HRD := Lib.hid (show readDo d ((f : Int) + (k : Int)) = ⟨d, tk, 0⟩ by
            rw [htk]
            exact read_at0 HRR.out (f + k) hfl)
          have hw1 : IntKind.i64.wrap ((f : Int) + (k : Int)) = (f : Int) + (k : Int) := IntWalk.i64_in _ (by omega)
          obtain ⟨cur, hgb, hcur, hback⟩ := row_out HROW.out
          replace HL := Lib.hid (HL.out.know hcur)
          have HBACK := Lib.hid hback
          clear hcur hback
          have htz := readT_size HRR.out (f + k) hfl
          rw [← htk] at htz
          clear htk
          obtain ⟨pk, hpk⟩ : ∃ x, x = partN n k := ⟨_, rfl⟩
          have hpk1 : 1 ≤ pk ∧ pk ≤ 64 ∧ 64 * k + pk = min n (64 * (k + 1)) := by unfold partN at hpk; omega
          have HMIN := Lib.hid (fun W => spec_min 64 ((n : Int) - 64 * (k : Int)) W)
          rw [show min 64 ((n : Int) - 64 * (k : Int)) = (pk : Int) by unfold partN at hpk; omega] at HMIN
          have hw2 : IntKind.i64.wrap ((n : Int) - 64 * (k : Int)) = (n : Int) - 64 * (k : Int) := IntWalk.i64_in _ (by omega)
          have hfull : fullAt d f n k ↔ pk ≤ tk.size := by unfold fullAt; rw [hpk, HTK.out]
          have HFU := Lib.hid hfull
          have HPK := Lib.hid hpk1
          have hpk2 := hpk1.2.1
          have HPP := Lib.hid hpk
          clear hfull hpk hpk1
          go_upto_region 10 with fail
          refine wp_region_calm_led (told [(3, fun u => u = .int .i64 (f : Int)), (6, fun u => ∃ B1 e1 B2 e2, u = .agg #[.slice B1 d.S.length e1, .slice B2 d.P.length e2, .string tk, .int .i64 0])]) (by kernel_rfl) (by kernel_rfl) (told_mono _) HL.out ?_
          repeat (first
            | (refine calm_skip (by rfl) ?_; try simp only [Act.put, List.setIfInBounds_toArray, List.set_cons_zero, List.set_cons_succ])
            | (refine calm_plain (by rfl) (by rfl) ?_; apply Exists.intro; refine ⟨fun wc hC hD => ?_, ?_⟩; (focus (clear hD; obtain ⟨c0, c1', c2'⟩ := hC.b2 (List.mem_cons_of_mem _ (List.mem_cons_of_mem _ List.mem_cons_self)); clear hC; go_simp; first | done | with_reducible rfl)); try simp only [Act.put, List.setIfInBounds_toArray, List.set_cons_zero, List.set_cons_succ]))
          refine calm_call _ _ (by rfl) (by rfl) ?_ ?_
          focus
            apply Exists.intro
            apply Exists.intro
            refine ⟨fun wc hC hD => ?_, fun wc hC hD => ?_⟩
            focus (clear hD; obtain ⟨c0, c1', c2'⟩ := hC.b2 (List.mem_cons_of_mem _ (List.mem_cons_of_mem _ List.mem_cons_self)); clear hC; go_simp; first | done | with_reducible exact ⟨rfl, rfl⟩)
            clear hD
            with_reducible refine (HFI.out _).mono ?_
            rintro e wx ⟨rfl, hb⟩
            exact ⟨_, rfl, hb, rfl, trivial⟩
          rintro _ rfl
          try simp only [Act.put, List.setIfInBounds_toArray, List.set_cons_zero, List.set_cons_succ]
          repeat (first
            | (refine calm_skip (by rfl) ?_; try simp only [Act.put, List.setIfInBounds_toArray, List.set_cons_zero, List.set_cons_succ])
            | (refine calm_plain (by rfl) (by rfl) ?_; apply Exists.intro; refine ⟨fun wc hC hD => ?_, ?_⟩; (focus (clear hD; obtain ⟨c0, c1', c2'⟩ := hC.b2 (List.mem_cons_of_mem _ (List.mem_cons_of_mem _ List.mem_cons_self)); clear hC; go_simp; first | done | with_reducible rfl)); try simp only [Act.put, List.setIfInBounds_toArray, List.set_cons_zero, List.set_cons_succ]))
          refine calm_call _ _ (by rfl) (by rfl) ?_ ?_
          focus
            apply Exists.intro
            apply Exists.intro
            refine ⟨fun wc hC hD => ?_, fun wc hC hD => ?_⟩
            focus (clear hD; obtain ⟨c0, c1', c2'⟩ := hC.b2 (List.mem_cons_of_mem _ (List.mem_cons_of_mem _ List.mem_cons_self)); clear hC; go_simp; first | done | with_reducible exact ⟨rfl, rfl⟩)
            clear hD
            with_reducible refine (spec_read _ d _ _ (hC.at_ List.mem_cons_self) (right_small' HRR.out)).mono ?_
            intro e wx h
            rw [HRD.out] at h
            obtain ⟨B1, e1, B2, e2, rfl, ho, hb⟩ := h.parts
            exact ⟨_, rfl, hb, ⟨_, _, _, _, rfl⟩, trivial⟩
          rintro _ ⟨B1, e1, B2, e2, rfl⟩
          have hfd := (fun W => field_text B1 d.S.length e1 B2 d.P.length e2 tk 0 W)
          try simp only [Act.put, List.setIfInBounds_toArray, List.set_cons_zero, List.set_cons_succ]
          repeat (first
            | (refine calm_skip (by rfl) ?_; try simp only [Act.put, List.setIfInBounds_toArray, List.set_cons_zero, List.set_cons_succ])
            | (refine calm_plain (by rfl) (by rfl) ?_; apply Exists.intro; refine ⟨fun wc hC hD => ?_, ?_⟩; (focus (clear hD; obtain ⟨c0, c1', c2'⟩ := hC.b2 (List.mem_cons_of_mem _ (List.mem_cons_of_mem _ List.mem_cons_self)); clear hC; go_simp; first | done | with_reducible rfl)); try simp only [Act.put, List.setIfInBounds_toArray, List.set_cons_zero, List.set_cons_succ]))
          refine calm_end ?_
          intro w7 hL7 hF7
          clear hF7
          replace HL := Lib.hid hL7
          clear hL7
          replace HROW := Lib.hid (HBACK.out _ (HL.out.blk _ List.mem_cons_self))
          replace HL := Lib.hid HL.out.forget
          go_wp2_with fail
          refine (HMIN.out _).mono ?_
          rintro e w8 ⟨rfl, hb⟩
          replace HL := Lib.hid (HL.out.lift hb)
          replace HROW := Lib.hid (HROW.out.below_row hb)
          clear hb
          by_cases hpt : pk ≤ tk.size
          · have hpt1 : ¬ (tk.size : Int) < (pk : Int) := by omega
            have hpt2 : (pk : Int) ≤ (tk.size : Int) := by omega
            have hz8' := block_lt (HL.out.blk _ List.mem_cons_self)
            obtain ⟨iu, i1, i2, i3, i4⟩ := infoU8r
            have HFIT := Lib.hid (show 64 * k + (tk.extract 0 pk).size ≤ 2080 by rw [ByteArray.size_extract]; unfold partsN at hlt; omega)
            go_wp2_with (at_builtin; go_must (refine Lib.wpList_append_own_string w8 rfl (.tmp 51) (.tmp 54) 22 9 rfl (w.heap.size + 2) 5 iu Tryz.underlying22 Tryz.underlying9 i1 i2 i3 i4 (.slice (some ⟨g0, 0, none⟩) (64 * k) c0) (64 * k) _ rfl HROW.out (tk.extract 0 pk) rfl (by have := HFIT.out; unfold maxLen; omega) (by have := HFIT.out; omega) (by omega) ?_); intro v9 w9 ho9 hg9 hi9; have HO9 := Lib.hid ho9; have HG9 := Lib.hid hg9; clear ho9 hg9 hi9)
            go_roundw
            case rel =>
              have hz8 := (HL.out.blk _ List.mem_cons_self)
              have hzb := block_lt hz8
              have hg0 := (World.ownsRow.lt HROW.out g0 rfl).1
              have ho := HO9.out
              have hxs : Lib.strCells (gotB d f n k) ++ Lib.strCells (tk.extract 0 pk) = Lib.strCells (gotB d f n (k + 1)) := by
                show _ = Lib.strCells (catB _ _)
                rw [strCells_cat, HTK.out, ← HPP.out]
              have hsz : (tk.extract 0 pk).size = pk := by rw [ByteArray.size_extract]; omega
              rw [hxs, hsz] at ho
              have hpk := HPK.out
              obtain ⟨g9, c9, hv⟩ : ∃ g9 c9, v9 = .slice (some ⟨g9, 0, none⟩) (64 * k + pk) c9 := by
                rcases ho.2 with ⟨_, h0⟩ | ⟨g', cap, cur', h1, _⟩
                · omega
                · exact ⟨g', cap, h1⟩
              rw [hv] at ho
              refine ⟨k + 1, g9, c9, 64 * k + pk, by omega, hpk.2.2, hv, by go_num, fun j hj => ?_, ho, ?_⟩
              · by_cases hjk : j = k
                · rw [hjk]; exact HFU.out.2 hpt
                · exact HF.out j (by omega)
              · refine HL.out.within (Within.of_grown (lo := g0) (hi := g0 + 1) HG9.out (fun g' hg' => by simp [Value.ownBlock] at hg'; omega)) (by omega) (fun p hp => ?_) (fun p hp => ?_) (by simp)
                · simp only [List.mem_cons, List.not_mem_nil, or_false] at hp
                  rcases hp with rfl | rfl <;> simp only <;> omega
                · rw [List.mem_singleton.1 hp]; simp only; omega
            case measure => simp [intOf]; omega
          · have hpt1 : (tk.size : Int) < (pk : Int) := by omega
            have HE := Lib.hid (HSUM.out k hlt (fun h => hpt (HFU.out.1 h)))
            have hz8 := block_lt (HL.out.blk _ List.mem_cons_self)
            clear hpt
            go_wp2_with fail
            refine (spec_illao 5 _).mono ?_
            intro e w3 h
            obtain ⟨B1, e1, B2, e2, rfl, ho, hb⟩ := h.parts
            replace HL := Lib.hid (HL.out.lift hb)
            have HZ := Lib.hid (HL.out.blk _ List.mem_cons_self)
            have hz := block_lt HZ.out
            have HO := Lib.hid (ho.base (base' := w.heap.size + 2) (by omega))
            clear h ho hb
            obtain ⟨z0, z1, z2, z3, z4⟩ := box5 HZ.out
            obtain ⟨k0, k1, k2, k3⟩ := box_frozen HZ.out
            have k4 : w3.frozen? ⟨w.heap.size + 1, 4, none⟩ = false := block_free HZ.out 4
            go_wp2
            refine bodyPost_ret (v := .agg #[.slice B1 (illAo 5).dk.S.length e1, .slice B2 (illAo 5).dk.P.length e2, .string (illAo 5).text, .int .i64 (illAo 5).gen, .int .i64 (illAo 5).code]) (by simp [results, Tryz.results14, go_sem, z0, z1, z2, z3, z4]) rfl ?_
            rw [HE.out]
            exact ⟨_, rfl, ao_done HL.out HO.out (Nat.le_refl _) _ _ _ _ _⟩
        · have hkn : k = partsN n := by omega
          subst hkn
          have hm' : m = n := by unfold partsN at hm; omega
          clear hm
          subst hm'
          have hge : ¬ ((m : Nat) : Int) < (m : Int) := by omega
          have HE := Lib.hid (HOK.out HF.out)
          have hsg := got_size (partsN m) HF.out
          rw [show min m (64 * partsN m) = m by unfold partsN; omega] at hsg
          have HGS := Lib.hid hsg
          obtain ⟨cur, hgb, hcur, hback⟩ := row_out HROW.out
          have hcv := conv_own HROW.out
          have HCV := Lib.hid (fun W h => conv_own (hback W h) HGS.out)
          replace HL := Lib.hid (HL.out.know hcur)
          clear hcur hback hsg hcv
          clear hlt hk
          go_upto_region 15 with fail
          refine wp_region_calm_led_tail [(1, (fun u => ∃ B1 e1 B2 e2, u = .agg #[.slice B1 d.S.length e1, .slice B2 d.P.length e2]), fun u W => DkOw W (w.heap.size + 2) u d)] 6 (by kernel_rfl) (by kernel_rfl) (by intro p hp v; rw [List.mem_singleton.1 hp]; exact fun W W' hb h => h.lift hb) HL.out ?_
          repeat (first
            | (refine calm_skip (by rfl) ?_; try simp only [Act.put, List.setIfInBounds_toArray, List.set_cons_zero, List.set_cons_succ])
            | (refine calm_plain (by rfl) (by rfl) ?_; apply Exists.intro; refine ⟨fun wc hC hD => ?_, ?_⟩; (focus (clear hD; obtain ⟨c0, c1', c2'⟩ := hC.b2 (List.mem_cons_of_mem _ (List.mem_cons_of_mem _ List.mem_cons_self)); have hcv := HCV.out _ (hC.blk _ List.mem_cons_self); clear hC; go_simp; first | done | with_reducible rfl)); try simp only [Act.put, List.setIfInBounds_toArray, List.set_cons_zero, List.set_cons_succ]))
          refine calm_call _ _ (by rfl) (by rfl) ?_ ?_
          focus
            apply Exists.intro
            apply Exists.intro
            refine ⟨fun wc hC hD => ?_, fun wc hC hD => ?_⟩
            focus (clear hD; obtain ⟨c0, c1', c2'⟩ := hC.b2 (List.mem_cons_of_mem _ (List.mem_cons_of_mem _ List.mem_cons_self)); have hcv := HCV.out _ (hC.blk _ List.mem_cons_self); clear hC; go_simp; first | done | with_reducible exact ⟨rfl, rfl⟩)
            clear hD
            have hzc := block_lt (hC.blk _ (List.mem_cons_of_mem _ List.mem_cons_self))
            with_reducible refine (spec_copy _ d _ (hC.at_ List.mem_cons_self) (by omega) (by omega)).mono ?_
            intro e wx h
            obtain ⟨B1, e1, B2, e2, rfl, ho, hb⟩ := h.parts
            exact ⟨_, rfl, hb, ⟨_, _, _, _, rfl⟩, ho.base (by omega)⟩
          rintro _ ⟨B1, e1, B2, e2, rfl⟩
          try simp only [Act.put, List.setIfInBounds_toArray, List.set_cons_zero, List.set_cons_succ]
          repeat (first
            | (refine calm_skip (by rfl) ?_; try simp only [Act.put, List.setIfInBounds_toArray, List.set_cons_zero, List.set_cons_succ])
            | (refine calm_plain (by rfl) (by rfl) ?_; apply Exists.intro; refine ⟨fun wc hC hD => ?_, ?_⟩; (focus (clear hD; obtain ⟨c0, c1', c2'⟩ := hC.b2 (List.mem_cons_of_mem _ (List.mem_cons_of_mem _ List.mem_cons_self)); have hcv := HCV.out _ (hC.blk _ List.mem_cons_self); clear hC; go_simp; first | done | with_reducible rfl)); try simp only [Act.put, List.setIfInBounds_toArray, List.set_cons_zero, List.set_cons_succ]))
          refine calm_end ?_
          intro w7 hL7 hF7
          have hG := hF7 1
          simp [upd, noF] at hG
          clear hF7
          replace HL := Lib.hid hL7
          clear hL7
          simp only [List.drop_succ_cons, List.drop_zero]
          have HO := Lib.hid hG
          clear hG
          have HZ := Lib.hid (HL.out.blk _ (List.mem_cons_of_mem _ List.mem_cons_self))
          have hz := block_lt HZ.out
          obtain ⟨z0, z1, z2, z3, z4⟩ := box5 HZ.out
          obtain ⟨k0, k1, k2, k3⟩ := box_frozen HZ.out
          have k4 : w7.frozen? ⟨w.heap.size + 1, 4, none⟩ = false := block_free HZ.out 4
          go_wp2
          refine bodyPost_ret (v := .agg #[.slice B1 d.S.length e1, .slice B2 d.P.length e2, .string (gotB d f m (partsN m)), .int .i64 g, .int .i64 0]) (by simp [results, Tryz.results14, go_sem, z0, z1, z2, z3, z4]) rfl ?_
          rw [HE.out]
          exact ⟨_, rfl, ao_done (o := ⟨d, gotB d f m (partsN m), g, 0⟩) HL.out HO.out (Nat.le_refl _) _ _ _ _ _⟩
  · rw [rightB_no hR]
    have HE := Lib.hid (readAo_form hR)
    go_wp2_with fail
    refine (spec_illao 1 _).mono ?_
    intro e w2 h
    obtain ⟨B1, e1, B2, e2, rfl, ho, hb⟩ := h.parts
    replace HL := Lib.hid (HL.out.lift hb)
    replace HZ := Lib.hid (keep_blk hb HZ.out)
    have HO := Lib.hid ho
    clear h ho hb x0 x1
    obtain ⟨z0, z1, z2, z3, z4⟩ := box5 HZ.out
    obtain ⟨k0, k1, k2, k3⟩ := box_frozen HZ.out
    have k4 : w2.frozen? ⟨w.heap.size + 1, 4, none⟩ = false := block_free HZ.out 4
    go_wp2
    refine bodyPost_ret (v := .agg #[.slice B1 (illAo 1).dk.S.length e1, .slice B2 (illAo 1).dk.P.length e2, .string (illAo 1).text, .int .i64 (illAo 1).gen, .int .i64 (illAo 1).code]) (by simp [results, Tryz.results14, go_sem, z0, z1, z2, z3, z4]) rfl ?_
    rw [HE.out]
    exact ⟨_, rfl, ao_done HL.out HO.out (by omega) _ _ _ _ _⟩

end Go.Proofs.YthchlfllcnlmjaaGreatDoor
