/-
  Contracts of keptOf and of both DiskCrash.
-/
import Derived.Test.YthchlfllcnlmjaaGreatDoorMed
import Derived.Test.YthchlfllcnlmjaaGreatDoorCopy
import Derived.Test.YthchlfllcnlmjaaGreatDoorRite
import Derived.Test.YthchlfllcnlmjaaGreatDoorIntsA
import Derived.RegionTactic
import Derived.BigRegion
import Derived.Deep.RegionWith
namespace Go.Proofs.YthchlfllcnlmjaaGreatDoor
open Go.ChangeShapes Go.WideShapes Go.ChangeAt Go.RowKit

theorem kept_small {d : Dk} (h : Small d) (keep : List Int) : Small ⟨d.S, kept d.P keep⟩ := by
  obtain ⟨h1, h2, h3, h4, h5⟩ := h
  exact ⟨h1, h2, Nat.le_trans (kept_len _ _) h3, fun p hp => h4 p (kept_mem _ _ _ hp), fun p hp => h5 p (kept_mem _ _ _ hp)⟩
theorem crash_small (d : Dk) (keep : List Int) (h : Small d) : (crashDk d keep).S.length ≤ 1048576 ∧ (crashDk d keep).P.length ≤ 1048577 := by
  have h1 := h.1
  have h2 := h.2.2.1
  by_cases h4 : 400 < keep.length
  · rw [crash_size h4]; simp
  · by_cases hR : Right d
    · rw [crash_ok h4 hR]
      simp only [flushS_len, List.length_nil]
      omega
    · rw [crash_form h4 hR]; omega

set_option maxRecDepth 100000 in
set_option maxHeartbeats 4000000 in
theorem impl_kept (vp vk : Value) (P : List Pd) (keep : List Int) (w : World) (hv : Sl w w.heap.size 2 encP vp P) (hk : Sl w w.heap.size 1 encI vk keep) (hP : P.length ≤ 1048576) (_ : keep.length ≤ 1048576) :
    Calls Tryz.prog 60 #[vp, vk] w (Owns w 84 2 encP (kept P keep)) := by
  obtain ⟨A2, c2, rfl⟩ := hv.form
  obtain ⟨A3, c3, rfl⟩ := hk.form
  have HV := Lib.hid hv; have HK := Lib.hid hk
  clear hv hk
  go_enter Tryz.func60, Tryz.ntmps60
  go_wp2
  go_loopw [5, 10] (fun x i wr => ∃ (k m : Nat) (A : Option Addr) (c : Nat), k ≤ P.length ∧ i = .int .i64 (k : Int) ∧ x = .slice A m c ∧ m ≤ k ∧ wr.ownsRow w.heap.size 84 2 (.slice A m c) m ((kept (P.take k) keep).flatMap encP) ∧ Below w.heap.size w wr) (fun _ i _ => P.length - (intOf i).toNat)
  case atStart => exact ⟨0, 0, none, 0, by omega, rfl, rfl, by omega, World.ownsRow_nil _ _ _ _, Below.refl _ _⟩
  case round =>
    obtain ⟨k, m, A, c, hk, rfl, rfl, hm, ho, hb⟩ := hrel
    have HO := Lib.hid ho; have HB := Lib.hid hb
    have hzw := hb.size
    clear ho
    by_cases hlt : k < P.length
    · obtain ⟨ad, c', e', had, hc, hcd⟩ := (HV.out.below hb).two k hlt
      simp only [Value.slice.injEq, true_and] at e'
      obtain ⟨rfl, rfl⟩ := e'
      obtain ⟨t, ht⟩ : ∃ t, t = P[k] := ⟨_, rfl⟩
      rw [← ht] at hc hcd
      have HT := Lib.hid ht; clear ht
      by_cases hkk : k < keep.length
      · obtain ⟨ak, c'', e'', hak, hck⟩ := (HK.out.below hb).one k hkk
        clear hb
        simp only [Value.slice.injEq, true_and] at e''
        obtain ⟨rfl, rfl⟩ := e''
        have hcka : ∀ o, (wr.alloc o).cell? (ak.add k) = some (.int .i64 keep[k]) := fun o => (World.cell?_alloc_lt wr o _ (by rw [add_block]; omega)).trans hck
        have hgd : keep.getD k 0 = keep[k] := by rw [List.getD_eq_getElem?_getD, List.getElem?_eq_getElem hkk]; rfl
        generalize keep[k] = q at hcka hck hgd
        by_cases hq : 0 < q
        · have HY := Lib.hid (kept_take_yes P keep k hlt (by rw [hgd]; exact hq))
          clear hgd
          go_wp2_with (at_builtin; refine list_append_sl pendType _ rfl (.tmp 26) (.tmp 28) rfl w.heap.size (.slice A m c) m _ rfl (World.ownsRow.alloc (World.ownsRow.alloc HO.out _) _) _ encP _ [t] rfl (sl_single (heap_two _ _ _) 2 encP t rfl) encP_len encP_one (by simp; unfold maxLen; omega) (by simp; omega) (by simp; omega) ?_; intro v3 w3 g3; obtain ⟨A', c', rfl⟩ := g3.form; have GO := Lib.hid g3.1; have GB := Lib.hid (g3.below (B := w.heap.size) (fun g hg => (World.ownsRow.lt HO.out g hg).1) (by simp; omega)); clear g3)
          go_roundw
          case rel => exact ⟨k + 1, m + 1, A', c', by omega, by go_num, rfl, by omega, by rw [HY.out, List.flatMap_append, ← HT.out]; exact GO.out, ((HB.out.alloc HB.out.size _).alloc (by have := HB.out.size; simp only [World.size_alloc]; omega) _).trans GB.out⟩
          case measure => simp [intOf]; omega
        · have HY := Lib.hid (kept_take_no P keep k hlt (by rw [hgd]; exact hq))
          clear hgd
          go_wp2
          go_roundw
          case rel => exact ⟨k + 1, m, A, c, by omega, by go_num, rfl, by omega, by rw [HY.out]; exact World.ownsRow.alloc HO.out _, HB.out.alloc HB.out.size _⟩
          case measure => simp [intOf]; omega
      · clear hb
        have HY := Lib.hid (kept_take_no P keep k hlt (by rw [List.getD_eq_getElem?_getD, List.getElem?_eq_none (by omega)]; simp))
        go_wp2
        go_roundw
        case rel => exact ⟨k + 1, m, A, c, by omega, by go_num, rfl, by omega, by rw [HY.out]; exact World.ownsRow.alloc HO.out _, HB.out.alloc HB.out.size _⟩
        case measure => simp [intOf]; omega
    · have hks : k = P.length := by omega
      subst hks
      have e : P.take P.length = P := List.take_of_length_le (Nat.le_refl _)
      rw [e] at HO
      clear e hb
      go_wp2
      go_ret
      refine ⟨_, rfl, ?_, HB.out⟩
      have hl := flat_len 2 encP encP_len (kept P keep)
      have h1 := HO.out.1
      have hm : m = (kept P keep).length := by omega
      unfold Ow
      rw [← hm]
      exact HO.out

set_option maxRecDepth 100000 in
set_option maxHeartbeats 4000000 in
theorem impl_crash (v vk : Value) (d : Dk) (keep : List Int) (w : World) (hv : DkAt w w.heap.size v d) (hk : Sl w w.heap.size 1 encI vk keep) (hd : Small d) (hK : keep.length ≤ 1048576) :
    Calls Tryz.prog 21 #[v, vk] w (OwnsDk w (crashDk d keep)) := by
  obtain ⟨vs, vp, rfl, hs, hp⟩ := hv
  obtain ⟨A1, c1, rfl⟩ := hs.form
  obtain ⟨A2, c2, rfl⟩ := hp.form
  obtain ⟨A3, c3, rfl⟩ := hk.form
  have HSM := Lib.hid hd
  obtain ⟨d1, _, d3, _, _⟩ := hd
  have HV := Lib.hid (show DkAt w w.heap.size (.agg #[.slice A1 d.S.length c1, .slice A2 d.P.length c2]) d from ⟨_, _, rfl, hs, hp⟩)
  have HS := Lib.hid hs; have HP := Lib.hid hp; have HK := Lib.hid hk
  clear hs hp hk
  by_cases h4 : 400 < keep.length
  · have HE := Lib.hid (crash_size (d := d) h4)
    have h4' : 400 < (keep.length : Int) := by omega
    go_enter Tryz.func21, Tryz.ntmps21
    go_wp2
    refine bodyPost_ret (v := .agg #[.slice none 0 0, .slice none 0 0]) (by simp [results, Tryz.results21, go_sem]) rfl ⟨_, rfl, ?_, ?_⟩
    · rw [HE.out]; exact dk_none _ _
    · exact ((Below.refl _ _).alloc (Nat.le_refl _) _).alloc (by simp) _
  · have h4' : ¬ 400 < (keep.length : Int) := by omega
    by_cases hR : Right d
    · have H1 := Lib.hid (fun W (hb : Below w.heap.size w W) => impl_right_yes _ d W ((HV.out.below hb).more hb.size) d1 d3 hR)
      have HE := Lib.hid (crash_ok h4 hR)
      have HPR := Lib.hid (fun p (hp : p ∈ kept d.P keep) => (⟨(hR.2.2.2.2 p (kept_mem _ _ _ hp)).1, (hR.2.2.2.2 p (kept_mem _ _ _ hp)).2.1⟩ : 0 ≤ p.1 ∧ p.1 < d.S.length))
      have HKE := Lib.hid (fun W (hb : Below w.heap.size w W) => impl_kept _ _ d.P keep W ((HP.out.below hb).more hb.size) ((HK.out.below hb).more hb.size) d3 hK)
      go_enter Tryz.func21, Tryz.ntmps21
      go_wp2_with fail
      refine (H1.out _ (((Below.refl _ _).alloc (Nat.le_refl _) _).alloc (by simp) _)).mono ?_
      rintro e w1 ⟨rfl, hb1⟩
      have HB1 := Lib.hid (below_call (((Below.refl w.heap.size w).alloc (Nat.le_refl _) _).alloc (by simp) _) (by simp only [World.size_alloc]; omega) hb1)
      have HG0 := Lib.hid (keep_blk hb1 (alloc_blk (heap_alloc_new _ _) _))
      have HG1 := Lib.hid (keep_blk hb1 (heap_two _ _ _))
      have hz1 := block_lt HG1.out
      have hz0 := block_lt HG0.out
      obtain ⟨x0, x1⟩ := box2 HG0.out
      clear hb1
      go_wp2
      go_region_with (first
        | (go_at_call 60; refine (HKE.out _ HB1.out.drew).mono ?_; rintro e w2 ⟨v2, rfl, ho2, hb2⟩; obtain ⟨B2, e2, rfl⟩ := ho2.form; obtain ⟨y0, y1⟩ := box2 (keep_blk (undrew hb2) HG0.out))
        | (go_at_call 59; refine (impl_medium _ ⟨d.S, kept d.P keep⟩ _ ⟨_, _, rfl, (HS.out.below (HB1.out.trans ((undrew hb2).mono HB1.out.size))).more (by have := HB1.out.size; have := (undrew hb2).size; omega), ho2.sl encP_len⟩ (kept_small HSM.out keep)).mono ?_; rintro e w3 ⟨v3, rfl, hm3, hb3⟩; have HM3 := Lib.hid hm3; obtain ⟨Ax, cx, bx, nx, Dx, rfl, _⟩ := hm3)
        | (go_at_call 61; refine (impl_flushed _ ⟨d.S, kept d.P keep⟩ _ w2.heap.size w1.heap.size HM3.out HPR.out d1 (undrew hb2).size (Nat.le_trans (undrew hb2).size hb3.size)).mono ?_; rintro e w4 ⟨B1, e1, rfl, ho4, hb4⟩; have Q1 := (hb4.block (w.heap.size + 1) hz1).trans (keep_blk hb3 (keep_blk (undrew hb2) HG1.out)); obtain ⟨z0, z1⟩ := box2 Q1; obtain ⟨f0, f1, _, _⟩ := box_frozen Q1))
      all_goals
        have HB4 := Lib.hid (((HB1.out.trans ((undrew hb2).mono HB1.out.size)).trans (hb3.mono (by have := HB1.out.size; have := (undrew hb2).size; omega))).trans (hb4.mono HB1.out.size))
        have HO4 := Lib.hid ho4
        have hz2 := (undrew hb2).size
        clear hb2 hb3 hb4 ho2 ho4 x0 x1 y0 y1
        go_wp2
        refine bodyPost_ret (v := .agg #[.slice B1 d.S.length e1, .slice none 0 0]) (by simp [results, Tryz.results21, go_sem, z0, z1]) rfl ⟨_, rfl, ?_, ?_⟩
        · rw [HE.out]
          refine ⟨_, _, rfl, ?_, World.ownsRow_nil _ _ _ _⟩
          refine Ow.base (base := w2.heap.size) ?_ (by omega)
          repeat (refine Ow.far ?_ (by simp only; omega) _)
          exact HO4.out
        · repeat (refine Below.setCell ?_ (by simp only; omega) _)
          exact HB4.out
    · have H1 := Lib.hid (fun W (hb : Below w.heap.size w W) => impl_right_no _ d W ((HV.out.below hb).more hb.size) d1 d3 hR)
      have HE := Lib.hid (crash_form h4 hR)
      have HC := Lib.hid (fun W (hb : Below w.heap.size w W) => impl_anew _ d W ((HV.out.below hb).more hb.size) HSM.out)
      go_enter Tryz.func21, Tryz.ntmps21
      go_wp2_with fail
      refine (H1.out _ (((Below.refl _ _).alloc (Nat.le_refl _) _).alloc (by simp) _)).mono ?_
      rintro e w1 ⟨rfl, hb1⟩
      have HB1 := Lib.hid (below_call (((Below.refl w.heap.size w).alloc (Nat.le_refl _) _).alloc (by simp) _) (by simp only [World.size_alloc]; omega) hb1)
      have HG0 := Lib.hid (keep_blk hb1 (alloc_blk (heap_alloc_new _ _) _))
      have HG1 := Lib.hid (keep_blk hb1 (heap_two _ _ _))
      have hz1 := block_lt HG1.out
      have hz0 := block_lt HG0.out
      obtain ⟨x0, x1⟩ := box2 HG0.out
      clear hb1
      go_wp2_with fail
      refine (HC.out _ HB1.out).mono ?_
      intro e w2 h2
      obtain ⟨B1, e1, B2, e2, rfl, ho2, hb2⟩ := h2.parts
      have HB2 := Lib.hid (below_call HB1.out HB1.out.size hb2)
      have KG1 := Lib.hid (keep_blk hb2 HG1.out)
      have HO2 := Lib.hid ho2
      have hz2 := HB1.out.size
      clear h2 hb2 ho2 x0 x1
      obtain ⟨z0, z1⟩ := box2 KG1.out
      obtain ⟨f0, f1, _, _⟩ := box_frozen KG1.out
      go_wp2
      refine bodyPost_ret (v := .agg #[.slice B1 d.S.length e1, .slice B2 d.P.length e2]) (by simp [results, Tryz.results21, go_sem, z0, z1]) rfl ⟨_, rfl, ?_, ?_⟩
      · rw [HE.out]
        refine DkOw.base (base := w1.heap.size) ?_ (by omega)
        repeat (refine DkOw.far ?_ (by simp only; omega) _)
        exact HO2.out
      · repeat (refine Below.setCell ?_ (by simp only; omega) _)
        exact HB2.out

set_option maxRecDepth 100000 in
set_option maxHeartbeats 4000000 in
theorem spec_crash (v vk : Value) (d : Dk) (keep : List Int) (w : World) (hv : DkAt w w.heap.size v d) (hk : Sl w w.heap.size 1 encI vk keep) (hd : Small d) (hK : keep.length ≤ 1048576) :
    Calls Tryz.prog 72 #[v, vk] w (OwnsDk w (crashDk d keep)) := by
  obtain ⟨vs, vp, rfl, hs, hp⟩ := hv
  obtain ⟨A1, c1, rfl⟩ := hs.form
  obtain ⟨A2, c2, rfl⟩ := hp.form
  obtain ⟨A3, c3, rfl⟩ := hk.form
  have HSM := Lib.hid hd
  obtain ⟨d1, _, d3, _, _⟩ := hd
  have HV := Lib.hid (show DkAt w w.heap.size (.agg #[.slice A1 d.S.length c1, .slice A2 d.P.length c2]) d from ⟨_, _, rfl, hs, hp⟩)
  have HS := Lib.hid hs; have HP := Lib.hid hp; have HK := Lib.hid hk
  clear hs hp hk
  by_cases h4 : 400 < keep.length
  · have HE := Lib.hid (crash_size (d := d) h4)
    have h4' : 400 < (keep.length : Int) := by omega
    go_enter Tryz.func72, Tryz.ntmps72
    go_wp2
    refine bodyPost_ret (v := .agg #[.slice none 0 0, .slice none 0 0]) (by simp [results, Tryz.results72, go_sem]) rfl ⟨_, rfl, ?_, ?_⟩
    · rw [HE.out]; exact dk_none _ _
    · exact ((Below.refl _ _).alloc (Nat.le_refl _) _).alloc (by simp) _
  · have h4' : ¬ 400 < (keep.length : Int) := by omega
    by_cases hR : Right d
    · have H1 := Lib.hid (fun W (hb : Below w.heap.size w W) => spec_right_yes _ d W ((HV.out.below hb).more hb.size) d1 d3 hR)
      have HE := Lib.hid (crash_ok h4 hR)
      have HPR := Lib.hid (fun p (hp : p ∈ d.P) => (⟨(hR.2.2.2.2 p hp).1, (hR.2.2.2.2 p hp).2.1⟩ : 0 ≤ p.1 ∧ p.1 < d.S.length))
      go_enter Tryz.func72, Tryz.ntmps72
      go_wp2_with fail
      refine (H1.out _ (((Below.refl _ _).alloc (Nat.le_refl _) _).alloc (by simp) _)).mono ?_
      rintro e w1 ⟨rfl, hb1⟩
      have HB1 := Lib.hid (below_call (((Below.refl w.heap.size w).alloc (Nat.le_refl _) _).alloc (by simp) _) (by simp only [World.size_alloc]; omega) hb1)
      have HG0 := Lib.hid (keep_blk hb1 (alloc_blk (heap_alloc_new _ _) _))
      have HG1 := Lib.hid (keep_blk hb1 (heap_two _ _ _))
      have hz1 := block_lt HG1.out
      have hz0 := block_lt HG0.out
      obtain ⟨x0, x1⟩ := box2 HG0.out
      clear hb1
      go_wp2_with (at_builtin; refine list_append_sl strType _ rfl (.tmp 16) (.tmp 18) rfl w1.heap.size _ 0 [] rfl (own_empty (heap_at rfl) _ _ (Nat.le_refl _)) w.heap.size encS _ d.S rfl (HS.out.below (HB1.out.alloc HB1.out.size _)) encS_len encS_one (by unfold maxLen; omega) (by omega) (by simp) ?_; intro v2 w2 g2; simp only [Nat.zero_add, List.nil_append] at g2; obtain ⟨A, c, rfl⟩ := g2.form; have GO := Lib.hid g2.1; have GB := Lib.hid (g2.below (B := w1.heap.size) (fun g hg => by simp [Value.ownBlock, go_sem] at hg; omega) (by simp)); have hz2 := g2.2.1.size; simp only [World.size_alloc] at hz2; clear g2 x0 x1)
      go_loopw [6] (fun i wr => ∃ k : Nat, k ≤ d.P.length ∧ i = .int .i64 (k : Int) ∧ wr.heap[w.heap.size]? = some (.cells #[.slice A1 d.S.length c1, .slice A2 d.P.length c2] 26 (0, 0)) ∧ wr.heap[w.heap.size + 1]? = some (.cells #[.slice none 0 0, .slice none 0 0] 26 (0, 0)) ∧ wr.heap[w2.heap.size]? = some (.cells #[.slice A d.S.length c, .slice none 0 0] 26 (0, 0)) ∧ wr.ownsRow w1.heap.size 9 1 (.slice A d.S.length c) d.S.length ((flushS d.S (kept (d.P.take k) keep)).flatMap encS) ∧ Below w.heap.size w wr ∧ w2.heap.size < wr.heap.size) (fun i _ => d.P.length - (intOf i).toNat)
      case atStart => exact ⟨0, by omega, rfl, alloc_blk ((GB.out.block _ (by omega)).trans (alloc_blk HG0.out _)) _, alloc_blk ((GB.out.block _ (by omega)).trans (alloc_blk HG1.out _)) _, heap_alloc_new _ _, by rw [List.take_zero, show kept [] keep = [] from rfl, flushS_nil]; exact World.ownsRow.alloc GO.out _, ((HB1.out.alloc HB1.out.size _).trans (GB.out.mono HB1.out.size)).alloc (by have := HB1.out.size; omega) _, by simp⟩
      case round =>
        have HLO := Lib.hid (World.ownsRow.lt GO.out)
        clear HG0 HG1 GO
        obtain ⟨k, hk, rfl, hg0, hg1, hg2, ho, hb, hzr⟩ := hrel
        have HG0 := Lib.hid hg0; have HG1 := Lib.hid hg1; have HG2 := Lib.hid hg2; have HO := Lib.hid ho; have HB := Lib.hid hb
        clear hg0 hg1 hg2 hb
        obtain ⟨x0, x1⟩ := box2 HG0.out
        by_cases hlt : k < d.P.length
        · by_cases hkk : k < keep.length
          · obtain ⟨ak, c'', e'', hak, hck⟩ := (HK.out.below HB.out).one k hkk
            simp only [Value.slice.injEq, true_and] at e''
            obtain ⟨rfl, rfl⟩ := e''
            have hgd : keep.getD k 0 = keep[k] := by rw [List.getD_eq_getElem?_getD, List.getElem?_eq_getElem hkk]; rfl
            generalize keep[k] = q0 at hck hgd
            by_cases hq0 : 0 < q0
            · have HY := Lib.hid (kept_take_yes d.P keep k hlt (by rw [hgd]; exact hq0))
              clear hgd
              obtain ⟨ad, c', e', had, hc, hcd⟩ := (HP.out.below HB.out).two k hlt
              simp only [Value.slice.injEq, true_and] at e'
              obtain ⟨rfl, rfl⟩ := e'
              obtain ⟨hx0, hx1⟩ := HPR.out _ (getElem_mem' d.P k hlt)
              obtain ⟨t, ht⟩ : ∃ t, t = d.P[k] := ⟨_, rfl⟩
              rw [← ht] at hc hcd hx0 hx1
              have HT := Lib.hid ht; clear ht
              obtain ⟨q, hq⟩ := Int.eq_ofNat_of_zero_le hx0
              rw [hq] at hc hx1
              have HQ := Lib.hid hq; clear hq hx0
              have hqS : q < d.S.length := by omega
              obtain ⟨g, rfl, hgb, hgl⟩ := own_form ho (by omega)
              have hgw := (HLO.out g rfl).2
              obtain ⟨u, hu, hf⟩ := own_cell ho q (by omega)
              clear ho
              obtain ⟨y0, y1⟩ := box2 HG2.out
              go_wp2
              go_region
              go_wp2
              go_roundw
              case rel =>
                have h := (HO.out.stored q (.string t.2)).1
                refine ⟨k + 1, by omega, by go_num, (Below.heap_setCell _ _ _ _ (by simp only; omega)).trans HG0.out, (Below.heap_setCell _ _ _ _ (by simp only; omega)).trans HG1.out, (Below.heap_setCell _ _ _ _ (by simp only; omega)).trans HG2.out, ?_, (HB.out.setCell (p := ⟨g, q, none⟩) (by have := HB1.out.size; simp only; omega) _).drew, by simpa using hzr⟩
                have e : kept (d.P.take (k + 1)) keep = kept (d.P.take k) keep ++ [((q : Int), t.2)] := by rw [HY.out, ← HT.out, ← HQ.out]
                have e2 : ((flushS d.S (kept (d.P.take k) keep)).flatMap encS).set q (.string t.2) = ((flushS d.S (kept (d.P.take k) keep)).set q t.2).flatMap encS := by
                  rw [show (flushS d.S (kept (d.P.take k) keep)).flatMap encS = (flushS d.S (kept (d.P.take k) keep)).map Value.string from flat_one Value.string _, show ((flushS d.S (kept (d.P.take k) keep)).set q t.2).flatMap encS = ((flushS d.S (kept (d.P.take k) keep)).set q t.2).map Value.string from flat_one Value.string _, List.map_set]
                rw [e, flushS_snoc _ _ _ _ hqS, ← e2]
                exact h
              case measure => simp [intOf]; omega
            · have HY := Lib.hid (kept_take_no d.P keep k hlt (by rw [hgd]; exact hq0))
              clear hgd ho
              go_wp2
              go_roundw
              case rel => exact ⟨k + 1, by omega, by go_num, HG0.out, HG1.out, HG2.out, by rw [HY.out]; exact HO.out, HB.out, hzr⟩
              case measure => simp [intOf]; omega
          · have HY := Lib.hid (kept_take_no d.P keep k hlt (by rw [List.getD_eq_getElem?_getD, List.getElem?_eq_none (by omega)]; simp))
            clear ho
            go_wp2
            go_roundw
            case rel => exact ⟨k + 1, by omega, by go_num, HG0.out, HG1.out, HG2.out, by rw [HY.out]; exact HO.out, HB.out, hzr⟩
            case measure => simp [intOf]; omega
        · have hks : k = d.P.length := by omega
          subst hks
          have e : d.P.take d.P.length = d.P := List.take_of_length_le (Nat.le_refl _)
          rw [e] at HO
          clear e ho
          obtain ⟨y0, y1⟩ := box2 HG2.out
          obtain ⟨z0, z1⟩ := box2 HG1.out
          obtain ⟨f0, f1, _, _⟩ := box_frozen HG1.out
          go_wp2
          refine bodyPost_ret (v := .agg #[.slice A d.S.length c, .slice none 0 0]) (by simp [results, Tryz.results72, go_sem, z0, z1]) rfl ⟨_, rfl, ?_, ?_⟩
          · rw [HE.out]
            refine ⟨_, _, rfl, ?_, World.ownsRow_nil _ _ _ _⟩
            refine Ow.base (base := w1.heap.size) ?_ (by omega)
            repeat (refine Ow.far ?_ (by simp only; omega) _)
            unfold Ow
            rw [flushS_len]
            exact HO.out
          · repeat (refine Below.setCell ?_ (by simp only; omega) _)
            exact HB.out
    · have H1 := Lib.hid (fun W (hb : Below w.heap.size w W) => spec_right_no _ d W ((HV.out.below hb).more hb.size) d1 d3 hR)
      have HE := Lib.hid (crash_form h4 hR)
      have HC := Lib.hid (fun W (hb : Below w.heap.size w W) => spec_copy _ d W ((HV.out.below hb).more hb.size) d1 d3)
      go_enter Tryz.func72, Tryz.ntmps72
      go_wp2_with fail
      refine (H1.out _ (((Below.refl _ _).alloc (Nat.le_refl _) _).alloc (by simp) _)).mono ?_
      rintro e w1 ⟨rfl, hb1⟩
      have HB1 := Lib.hid (below_call (((Below.refl w.heap.size w).alloc (Nat.le_refl _) _).alloc (by simp) _) (by simp only [World.size_alloc]; omega) hb1)
      have HG0 := Lib.hid (keep_blk hb1 (alloc_blk (heap_alloc_new _ _) _))
      have HG1 := Lib.hid (keep_blk hb1 (heap_two _ _ _))
      have hz1 := block_lt HG1.out
      have hz0 := block_lt HG0.out
      obtain ⟨x0, x1⟩ := box2 HG0.out
      clear hb1
      go_wp2_with fail
      refine (HC.out _ HB1.out).mono ?_
      intro e w2 h2
      obtain ⟨B1, e1, B2, e2, rfl, ho2, hb2⟩ := h2.parts
      have HB2 := Lib.hid (below_call HB1.out HB1.out.size hb2)
      have KG1 := Lib.hid (keep_blk hb2 HG1.out)
      have HO2 := Lib.hid ho2
      have hz2 := HB1.out.size
      clear h2 hb2 ho2 x0 x1
      obtain ⟨z0, z1⟩ := box2 KG1.out
      obtain ⟨f0, f1, _, _⟩ := box_frozen KG1.out
      go_wp2
      refine bodyPost_ret (v := .agg #[.slice B1 d.S.length e1, .slice B2 d.P.length e2]) (by simp [results, Tryz.results72, go_sem, z0, z1]) rfl ⟨_, rfl, ?_, ?_⟩
      · rw [HE.out]
        refine DkOw.base (base := w1.heap.size) ?_ (by omega)
        repeat (refine DkOw.far ?_ (by simp only; omega) _)
        exact HO2.out
      · repeat (refine Below.setCell ?_ (by simp only; omega) _)
        exact HB2.out

end Go.Proofs.YthchlfllcnlmjaaGreatDoor
