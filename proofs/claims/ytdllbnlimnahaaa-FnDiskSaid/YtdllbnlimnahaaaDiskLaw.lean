/-
  Whatever bytes come in, the law FnDisk returns true: what is written to a drawn disk is read, and no other sector reads as another one; flushed, all reads as it did, and is there behind any crash; a crash leaves of each sector what was flushed, or something that was written since. No condition.
-/
import Derived.Test.YtdllbnlimnahaaaRows
import Derived.Test.YtdllbnlimnahaaaFd
import Derived.WalkKit
import Derived.ProofKit
import Derived.OpenShut
import Derived.ShutString
import Derived.ChangeOld
import Derived.Below
import Derived.Lib.Hide
import Derived.Deep.RegionWith
import Derived.Deep.RegionHeld3
import Derived.Deep.QuietTactic
import Derived.Deep.DeepCutAuto
namespace Go.Proofs.Ytdllbnlimnahaaa.FnDisk
open Go.ChangeShapes Go.WideShapes Go.ChangeAt Go.RowKit
open Go.ChangeMaps (open_string shut_string)
set_option linter.unusedVariables false

set_option maxRecDepth 100000 in
set_option maxHeartbeats 4000000 in
theorem walk (a0 : Option Addr) (len0 cap0 : Nat) (z0 : List Int) (a1 : Option Addr) (len1 cap1 : Nat) (z1 : List Int) (w : World) (w0 : IsRow .u8 w a0 len0 cap0 z0) (w1 : IsRow .u8 w a1 len1 cap1 z1) :
    Calls Try.prog 3 #[.slice a0 len0 cap0, .slice a1 len1 cap1] w fun e w' => e = .returned (.bool true) ∧ Below w.heap.size w w' := by
  by_cases h0 : 1048576 < len0
  · have h0' : 1048576 < (len0 : Int) := by omega
    clear w0 w1 h0
    go_enter Try.func3, Try.ntmps3
    go_wp2
    go_ret
    exact ⟨rfl, Below.refl _ _⟩
  · by_cases h1 : 1048576 < len1
    · have h0' : ¬ 1048576 < (len0 : Int) := by omega
      have h1' : 1048576 < (len1 : Int) := by omega
      clear w0 w1 h0 h1
      go_enter Try.func3, Try.ntmps3
      go_wp2
      go_ret
      exact ⟨rfl, Below.refl _ _⟩
    · have h0' : ¬ 1048576 < (len0 : Int) := by omega
      have h1' : ¬ 1048576 < (len1 : Int) := by omega
      have HF := Lib.hid (show Fd w w (.slice a0 len0 cap0) len0 (.slice a1 len1 cap1) len1 [] [] [] from ⟨Below.refl _ _, by simp, by simp, by simp, w0.code (by omega), w1.code (by omega)⟩)
      clear w0 w1 h0 h1
      go_enter Try.func3, Try.ntmps3
      -- d, at, data
      go_wp2_with fail
      refine (draw_diskwrite _ len0 _ HF.out.c1).mono ?_
      rintro e w1 ⟨A1, c1, A2, c2, d, at_, t, rfl, hd, t0, t1, t2, ho, hb⟩
      have HDd := Lib.hid hd
      have HT := Lib.hid (show t.size ≤ 1048576 by omega)
      have HF1 := Lib.hid (((HF.out.lift hb).read ho.at_).box (.cells #[.slice A1 d.S.length c1, .slice A2 d.P.length c2] 26))
      clear hd t2 ho hb HF
      obtain ⟨d0, d1⟩ := HF1.out.b2 (List.mem_cons_self)
      -- x
      go_wp2_with fail
      refine (impl_write _ d at_ t _ (HF1.out.at_ List.mem_cons_self) HDd.out.small HT.out).mono ?_
      intro e w2 h
      obtain ⟨sx, px, rfl, ho, hb⟩ := h.told
      have HF2 := Lib.hid (((HF1.out.lift hb).read ho.at_).box (.cells #[sx, px, .string (writeDo d at_ t).data, .int .i64 (writeDo d at_ t).code] 30))
      have hform := ho.forms
      obtain ⟨A2x, c2x, A3x, c3x, rfl, rfl⟩ := hform
      clear h ho hb HF1 d0 d1
      -- e, keep
      go_wp2_with fail
      refine (draw_diskcrash _ len1 _ HF2.out.c2).mono ?_
      rintro e w3 ⟨E1, e1, E2, e2, de, vk, kl, rfl, ho, hd, hok, hkl, hb⟩
      have HDe := Lib.hid hd
      obtain ⟨K1, k1, rfl⟩ := hok.form
      have HF3 := Lib.hid ((((HF2.out.lift hb).read ho.at_).keep (hok.sl encI_len)).box (.cells #[.slice E1 de.S.length e1, .slice E2 de.P.length e2] 26))
      have HKL := Lib.hid (show ¬ 400 < kl.length by omega)
      clear hd ho hok hkl hb HF2
      obtain ⟨b0, b1⟩ := HF3.out.b2 (List.mem_cons_self)
      -- c
      go_wp2_with fail
      refine (impl_crash _ _ de kl _ (HF3.out.at_ List.mem_cons_self) (HF3.out.kp List.mem_cons_self) HDe.out.small (by have := HKL.out; omega)).mono ?_
      intro e w4 h
      obtain ⟨C1, cc1, C2, cc2, rfl, ho, hb⟩ := h.told
      have HF4 := Lib.hid (((HF3.out.lift hb).read ho.at_).box (.cells #[.slice C1 (crashDk de kl).S.length cc1, .slice C2 (crashDk de kl).P.length cc2] 26))
      clear h ho hb HF3 b0 b1
      obtain ⟨b0, b1⟩ := HF4.out.b2 (List.mem_cons_of_mem _ List.mem_cons_self)
      -- f
      go_wp2_with fail
      refine (impl_flush _ de _ (HF4.out.at_ (List.mem_cons_of_mem _ List.mem_cons_self)) HDe.out.small).mono ?_
      intro e w5 h
      obtain ⟨F1, f1, F2, f2, rfl, ho, hb⟩ := h.parts
      have HF5 := Lib.hid (((HF4.out.lift hb).read ho.at_).box (.cells #[.slice F1 (flushDo de).dk.S.length f1, .slice F2 (flushDo de).dk.P.length f2, .string (flushDo de).data, .int .i64 (flushDo de).code] 30))
      clear h ho hb HF4 b0 b1
      -- n
      go_wp2_with fail
      refine (draw_disknew _ len1 _ HF5.out.c2).mono ?_
      rintro e w6 ⟨n, rfl, _, _, hb⟩
      have HF6 := Lib.hid (HF5.out.lift hb)
      clear hb HF5
      -- g, k
      go_wp2_with fail
      refine (draw_diskread _ len0 _ HF6.out.c1).mono ?_
      rintro e w7 ⟨G1, g1, G2, g2, dg, k, rfl, hd, _, _, ho, hb⟩
      have HDg := Lib.hid hd
      have HF7 := Lib.hid (((HF6.out.lift hb).read ho.at_).box (.cells #[.slice G1 dg.S.length g1, .slice G2 dg.P.length g2] 26))
      clear hd ho hb HF6
      have HBx := Lib.hid (write_drawn HDd.out at_ t)
      have HBc := Lib.hid (crash_drawn HDe.out kl)
      have HBf := Lib.hid (flush_drawn HDe.out)
      have HBg := Lib.hid (read_drawn HDg.out k)
      have HBn := Lib.hid (new_drawn n)
      have HKK := Lib.hid (show kl.length ≤ 1048576 by have := HKL.out; omega)
      have HSe := Lib.hid (show de.S.length ≤ 140737488351232 ∧ de.P.length ≤ 140737488351232 by have := HDe.out.small.1; have := HDe.out.small.2.2.1; omega)
      have HF := Lib.hid HF7.out
      clear HF7
      go_upto_region 10 with fail
      go_cut [103] (fun y wx => y = .bool false ∧ Fd w wx (.slice a0 len0 cap0) len0 (.slice a1 len1 cap1) len1 [(w7.heap.size, .cells #[.slice G1 dg.S.length g1, .slice G2 dg.P.length g2] 26 (0, 0)), (w5.heap.size, .cells #[.slice F1 (flushDo de).dk.S.length f1, .slice F2 (flushDo de).dk.P.length f2, .string (flushDo de).data, .int .i64 (flushDo de).code] 30 (0, 0)), (w4.heap.size, .cells #[.slice C1 (crashDk de kl).S.length cc1, .slice C2 (crashDk de kl).P.length cc2] 26 (0, 0)), (w3.heap.size, .cells #[.slice E1 de.S.length e1, .slice E2 de.P.length e2] 26 (0, 0)), (w2.heap.size, .cells #[.slice A2x (writeDo d at_ t).dk.S.length c2x, .slice A3x (writeDo d at_ t).dk.P.length c3x, .string (writeDo d at_ t).data, .int .i64 (writeDo d at_ t).code] 30 (0, 0)), (w1.heap.size, .cells #[.slice A1 d.S.length c1, .slice A2 d.P.length c2] 26 (0, 0))] [((.agg #[.slice G1 dg.S.length g1, .slice G2 dg.P.length g2]), dg), ((.agg #[.slice F1 (flushDo de).dk.S.length f1, .slice F2 (flushDo de).dk.P.length f2]), (flushDo de).dk), ((.agg #[.slice C1 (crashDk de kl).S.length cc1, .slice C2 (crashDk de kl).P.length cc2]), crashDk de kl), ((.agg #[.slice E1 de.S.length e1, .slice E2 de.P.length e2]), de), ((.agg #[.slice A2x (writeDo d at_ t).dk.S.length c2x, .slice A3x (writeDo d at_ t).dk.P.length c3x]), (writeDo d at_ t).dk), ((.agg #[.slice A1 d.S.length c1, .slice A2 d.P.length c2]), d)] [(.slice K1 kl.length k1, kl)])
      case first => as_aux_lemma =>
        have hbb : (rightB de != rightB de) = false := by simp
        replace HF := Lib.hid HF.out.drew
        have HS := Lib.hid HF.out.six
        go_region_held3 (fun W => W.cell? ⟨w7.heap.size, 0, none⟩ = some (.slice G1 dg.S.length g1) ∧ W.cell? ⟨w7.heap.size, 1, none⟩ = some (.slice G2 dg.P.length g2) ∧ W.cell? ⟨w5.heap.size, 0, none⟩ = some (.slice F1 (flushDo de).dk.S.length f1) ∧ W.cell? ⟨w5.heap.size, 1, none⟩ = some (.slice F2 (flushDo de).dk.P.length f2) ∧ W.cell? ⟨w5.heap.size, 2, none⟩ = some (.string (flushDo de).data) ∧ W.cell? ⟨w5.heap.size, 3, none⟩ = some (.int .i64 (flushDo de).code) ∧ W.cell? ⟨w4.heap.size, 0, none⟩ = some (.slice C1 (crashDk de kl).S.length cc1) ∧ W.cell? ⟨w4.heap.size, 1, none⟩ = some (.slice C2 (crashDk de kl).P.length cc2) ∧ W.cell? ⟨w3.heap.size, 0, none⟩ = some (.slice E1 de.S.length e1) ∧ W.cell? ⟨w3.heap.size, 1, none⟩ = some (.slice E2 de.P.length e2) ∧ W.cell? ⟨w2.heap.size, 0, none⟩ = some (.slice A2x (writeDo d at_ t).dk.S.length c2x) ∧ W.cell? ⟨w2.heap.size, 1, none⟩ = some (.slice A3x (writeDo d at_ t).dk.P.length c3x) ∧ W.cell? ⟨w2.heap.size, 2, none⟩ = some (.string (writeDo d at_ t).data) ∧ W.cell? ⟨w2.heap.size, 3, none⟩ = some (.int .i64 (writeDo d at_ t).code) ∧ W.cell? ⟨w1.heap.size, 0, none⟩ = some (.slice A1 d.S.length c1) ∧ W.cell? ⟨w1.heap.size, 1, none⟩ = some (.slice A2 d.P.length c2)) (exact HS.out) (first
          | (go_at_call 13; (with_reducible refine (spec_write _ d _ _ _ (HF.out.at_ (List.mem_cons_of_mem _ (List.mem_cons_of_mem _ (List.mem_cons_of_mem _ (List.mem_cons_of_mem _ (List.mem_cons_of_mem _ List.mem_cons_self)))))) HDd.out.small HT.out).mono ?_); intro e wx h; obtain ⟨ra, rb, rfl, ho, hb⟩ := h.told; have HA := Lib.hid ho.at_; replace HF := Lib.hid (HF.out.lift hb); have HS := Lib.hid HF.out.six; clear h ho hb)
          | (go_at_call 12; (with_reducible refine (lw_disks _ _ _ _ _ _ _ _ (HF.out.at_ (List.mem_cons_of_mem _ (List.mem_cons_of_mem _ (List.mem_cons_of_mem _ (List.mem_cons_of_mem _ List.mem_cons_self))))) HA.out HBx.out.1 HBx.out.2.1 HBx.out.2.2).mono ?_); rintro e wx ⟨rfl, hb⟩; clear HA; replace HF := Lib.hid (HF.out.lift hb); have HS := Lib.hid HF.out.six; clear hb)
          | (go_at_call 15; (with_reducible refine (spec_crash _ _ de kl _ (HF.out.at_ (List.mem_cons_of_mem _ (List.mem_cons_of_mem _ (List.mem_cons_of_mem _ List.mem_cons_self)))) (HF.out.kp List.mem_cons_self) HDe.out.small HKK.out).mono ?_); intro e wx h; obtain ⟨ra, ca, rb, cb, rfl, ho, hb⟩ := h.told; have HA := Lib.hid ho.at_; replace HF := Lib.hid (HF.out.lift hb); have HS := Lib.hid HF.out.six; clear h ho hb)
          | (go_at_call 14; (with_reducible refine (lw_disk _ _ _ _ _ _ (HF.out.at_ (List.mem_cons_of_mem _ (List.mem_cons_of_mem _ List.mem_cons_self))) HA.out (Nat.le_trans HBc.out.1 (by decide)) (Nat.le_trans HBc.out.2 (by decide))).mono ?_); rintro e wx ⟨rfl, hb⟩; clear HA; replace HF := Lib.hid (HF.out.lift hb); have HS := Lib.hid HF.out.six; clear hb)
          | (go_at_call 16; (with_reducible refine (spec_flush _ de _ (HF.out.at_ (List.mem_cons_of_mem _ (List.mem_cons_of_mem _ (List.mem_cons_of_mem _ List.mem_cons_self)))) HDe.out.small).mono ?_); intro e wx h; obtain ⟨ra, rb, rfl, ho, hb⟩ := h.told; have HA := Lib.hid ho.at_; replace HF := Lib.hid (HF.out.lift hb); have HS := Lib.hid HF.out.six; clear h ho hb)
          | (go_at_call 12; (with_reducible refine (lw_disks _ _ _ _ _ _ _ _ (HF.out.at_ (List.mem_cons_of_mem _ List.mem_cons_self)) HA.out HBf.out.1 HBf.out.2.1 HBf.out.2.2).mono ?_); rintro e wx ⟨rfl, hb⟩; clear HA; replace HF := Lib.hid (HF.out.lift hb); have HS := Lib.hid HF.out.six; clear hb)
          | (go_at_call 17; (with_reducible refine (impl_disknew n _).mono ?_); intro e wx h; obtain ⟨ra, ca, rb, cb, rfl, ho, hb⟩ := h.told; have HA := Lib.hid ho.at_; replace HF := Lib.hid (HF.out.lift hb); have HS := Lib.hid HF.out.six; clear h ho hb)
          | (go_at_call 18; (with_reducible refine (spec_disknew n _).mono ?_); intro e wx h; obtain ⟨rc, cc, rd, cd, rfl, ho, hb⟩ := h.told; have HA2 := Lib.hid ho.at_; replace HA := Lib.hid ((HA.out.below hb).more hb.size); replace HF := Lib.hid (HF.out.lift hb); have HS := Lib.hid HF.out.six; clear h ho hb)
          | (go_at_call 14; (with_reducible refine (lw_disk _ _ _ _ _ _ HA.out HA2.out (Nat.le_trans HBn.out.1 (by decide)) (Nat.le_trans HBn.out.2 (by decide))).mono ?_); rintro e wx ⟨rfl, hb⟩; clear HA HA2; replace HF := Lib.hid (HF.out.lift hb); have HS := Lib.hid HF.out.six; clear hb)
          | (go_at_call 19; (with_reducible refine (impl_read _ dg k _ (HF.out.at_ List.mem_cons_self) HDg.out.small).mono ?_); intro e wx h; obtain ⟨ra, rb, rfl, ho, hb⟩ := h.told; have HA := Lib.hid ho.at_; replace HF := Lib.hid (HF.out.lift hb); have HS := Lib.hid HF.out.six; clear h ho hb)
          | (go_at_call 20; (with_reducible refine (spec_read _ dg k _ (HF.out.at_ List.mem_cons_self) HDg.out.small).mono ?_); intro e wx h; obtain ⟨rc, rd, rfl, ho, hb⟩ := h.told; have HA2 := Lib.hid ho.at_; replace HA := Lib.hid ((HA.out.below hb).more hb.size); replace HF := Lib.hid (HF.out.lift hb); have HS := Lib.hid HF.out.six; clear h ho hb)
          | (go_at_call 12; (with_reducible refine (lw_disks _ _ _ _ _ _ _ _ HA.out HA2.out HBg.out.1 HBg.out.2.1 HBg.out.2.2).mono ?_); rintro e wx ⟨rfl, hb⟩; clear HA HA2; replace HF := Lib.hid (HF.out.lift hb); have HS := Lib.hid HF.out.six; clear hb)
          | (go_at_call 21; (with_reducible refine (impl_right _ de _ (HF.out.at_ (List.mem_cons_of_mem _ (List.mem_cons_of_mem _ (List.mem_cons_of_mem _ List.mem_cons_self)))) HSe.out.1 HSe.out.2).mono ?_); rintro e wx ⟨rfl, hb⟩; replace HF := Lib.hid (HF.out.lift hb); have HS := Lib.hid HF.out.six; clear hb)
          | (go_at_call 22; (with_reducible refine (spec_right _ de _ (HF.out.at_ (List.mem_cons_of_mem _ (List.mem_cons_of_mem _ (List.mem_cons_of_mem _ List.mem_cons_self)))) HSe.out.1 HSe.out.2).mono ?_); rintro e wx ⟨rfl, hb⟩; replace HF := Lib.hid (HF.out.lift hb); have HS := Lib.hid HF.out.six; clear hb))
        go_wp2_with fail
        go_meet
        exact ⟨rfl, HF.out⟩
      case rest =>
        clear HF HBg HBn HSe
        obtain ⟨rfl, hF⟩ := hcut
        have HF := Lib.hid hF
        clear hF
        obtain ⟨y1, y2, y3, y4, y5, y6, y7, y8, y9, y10, y11, y12, y13, y14, y15, y16⟩ := HF.out.six
        go_upto_if 106 with fail
        go_cut [16, 17] (fun y z wx => Fd w wx (.slice a0 len0 cap0) len0 (.slice a1 len1 cap1) len1 [(w7.heap.size, .cells #[.slice G1 dg.S.length g1, .slice G2 dg.P.length g2] 26 (0, 0)), (w5.heap.size, .cells #[.slice F1 (flushDo de).dk.S.length f1, .slice F2 (flushDo de).dk.P.length f2, .string (flushDo de).data, .int .i64 (flushDo de).code] 30 (0, 0)), (w4.heap.size, .cells #[.slice C1 (crashDk de kl).S.length cc1, .slice C2 (crashDk de kl).P.length cc2] 26 (0, 0)), (w3.heap.size, .cells #[.slice E1 de.S.length e1, .slice E2 de.P.length e2] 26 (0, 0)), (w2.heap.size, .cells #[.slice A2x (writeDo d at_ t).dk.S.length c2x, .slice A3x (writeDo d at_ t).dk.P.length c3x, .string (writeDo d at_ t).data, .int .i64 (writeDo d at_ t).code] 30 (0, 0)), (w1.heap.size, .cells #[.slice A1 d.S.length c1, .slice A2 d.P.length c2] 26 (0, 0))] [((.agg #[.slice G1 dg.S.length g1, .slice G2 dg.P.length g2]), dg), ((.agg #[.slice F1 (flushDo de).dk.S.length f1, .slice F2 (flushDo de).dk.P.length f2]), (flushDo de).dk), ((.agg #[.slice C1 (crashDk de kl).S.length cc1, .slice C2 (crashDk de kl).P.length cc2]), crashDk de kl), ((.agg #[.slice E1 de.S.length e1, .slice E2 de.P.length e2]), de), ((.agg #[.slice A2x (writeDo d at_ t).dk.S.length c2x, .slice A3x (writeDo d at_ t).dk.P.length c3x]), (writeDo d at_ t).dk), ((.agg #[.slice A1 d.S.length c1, .slice A2 d.P.length c2]), d)] [(.slice K1 kl.length k1, kl)])
        case first => as_aux_lemma =>
          by_cases hx : (writeDo d at_ t).code = 0
          · have HX := Lib.hid (write_read hx)
            go_wp2
            go_loopw [16, 17] (fun i y wr => ∃ q : Nat, i = .int .i64 (q : Int) ∧ q ≤ d.S.length ∧ Fd w wr (.slice a0 len0 cap0) len0 (.slice a1 len1 cap1) len1 [(w7.heap.size, .cells #[.slice G1 dg.S.length g1, .slice G2 dg.P.length g2] 26 (0, 0)), (w5.heap.size, .cells #[.slice F1 (flushDo de).dk.S.length f1, .slice F2 (flushDo de).dk.P.length f2, .string (flushDo de).data, .int .i64 (flushDo de).code] 30 (0, 0)), (w4.heap.size, .cells #[.slice C1 (crashDk de kl).S.length cc1, .slice C2 (crashDk de kl).P.length cc2] 26 (0, 0)), (w3.heap.size, .cells #[.slice E1 de.S.length e1, .slice E2 de.P.length e2] 26 (0, 0)), (w2.heap.size, .cells #[.slice A2x (writeDo d at_ t).dk.S.length c2x, .slice A3x (writeDo d at_ t).dk.P.length c3x, .string (writeDo d at_ t).data, .int .i64 (writeDo d at_ t).code] 30 (0, 0)), (w1.heap.size, .cells #[.slice A1 d.S.length c1, .slice A2 d.P.length c2] 26 (0, 0))] [((.agg #[.slice G1 dg.S.length g1, .slice G2 dg.P.length g2]), dg), ((.agg #[.slice F1 (flushDo de).dk.S.length f1, .slice F2 (flushDo de).dk.P.length f2]), (flushDo de).dk), ((.agg #[.slice C1 (crashDk de kl).S.length cc1, .slice C2 (crashDk de kl).P.length cc2]), crashDk de kl), ((.agg #[.slice E1 de.S.length e1, .slice E2 de.P.length e2]), de), ((.agg #[.slice A2x (writeDo d at_ t).dk.S.length c2x, .slice A3x (writeDo d at_ t).dk.P.length c3x]), (writeDo d at_ t).dk), ((.agg #[.slice A1 d.S.length c1, .slice A2 d.P.length c2]), d)] [(.slice K1 kl.length k1, kl)]) (fun i y _ => d.S.length - (intOf i).toNat)
            case atStart => exact ⟨0, rfl, Nat.zero_le _, HF.out⟩
            case round =>
              clear HF y1 y2 y3 y4 y5 y6 y7 y8 y9 y10 y11 y12 y13 y14 y15 y16 hx
              obtain ⟨q, rfl, hq, hF⟩ := hrel
              have HF := Lib.hid hF
              clear hF
              obtain ⟨y1, y2, y3, y4, y5, y6, y7, y8, y9, y10, y11, y12, y13, y14, y15, y16⟩ := HF.out.six
              have hn1 := HDd.out.1
              by_cases hlt : q < d.S.length
              · have HR1 := Lib.hid (read_at HX.out.1 q hlt)
                have HR0 := Lib.hid (read_at HX.out.2.1 q (by rw [HX.out.2.2.1]; exact hlt))
                have HTk := Lib.hid (HX.out.2.2.2 q)
                have hwq : IntKind.i64.wrap ((q : Int) + 1) = (q : Int) + 1 := IntWalk.i64_in _ (by omega)
                go_wp2_with fail
                with_reducible refine (spec_read _ d q _ (HF.out.at_ (List.mem_cons_of_mem _ (List.mem_cons_of_mem _ (List.mem_cons_of_mem _ (List.mem_cons_of_mem _ (List.mem_cons_of_mem _ List.mem_cons_self)))))) HDd.out.small).mono ?_
                intro e wx h
                rw [HR1.out] at h
                obtain ⟨ra, rb, rc, rd, rfl, ho, hb⟩ := h.parts
                replace HF := Lib.hid (HF.out.lift hb)
                clear h ho hb y1 y2 y3 y4 y5 y6 y7 y8 y9 y10 y11 y12 y13 y14 y15 y16
                obtain ⟨y1, y2, y3, y4, y5, y6, y7, y8, y9, y10, y11, y12, y13, y14, y15, y16⟩ := HF.out.six
                have hfd := fun W => field_data ra (d).S.length rb rc (d).P.length rd (readT d q) 0 W
                dsimp only

                by_cases hqa : (q : Int) = at_
                · have HR2 := Lib.hid (show readDo (writeDo d at_ t).dk (q : Int) = ⟨(writeDo d at_ t).dk, t, 0⟩ by rw [HR0.out, HTk.out, if_pos hqa])
                  subst hqa
                  have hne : (t.toList != t.toList) = false := by simp
                  clear HR0 HTk HR1
                  go_wp2_with fail
                  with_reducible refine (impl_read _ (writeDo d (q : Int) t).dk q _ (HF.out.at_ (List.mem_cons_of_mem _ (List.mem_cons_of_mem _ (List.mem_cons_of_mem _ (List.mem_cons_of_mem _ List.mem_cons_self))))) (right_small HX.out.2.1)).mono ?_
                  intro e wx h
                  rw [HR2.out] at h
                  obtain ⟨ra, rb, rc, rd, rfl, ho, hb⟩ := h.parts
                  replace HF := Lib.hid (HF.out.lift hb)
                  clear h ho hb y1 y2 y3 y4 y5 y6 y7 y8 y9 y10 y11 y12 y13 y14 y15 y16
                  obtain ⟨y1, y2, y3, y4, y5, y6, y7, y8, y9, y10, y11, y12, y13, y14, y15, y16⟩ := HF.out.six
                  have hfd := fun W => field_data ra ((writeDo d (q : Int) t).dk).S.length rb rc ((writeDo d (q : Int) t).dk).P.length rd (t) 0 W
                  dsimp only

                  go_wp2
                  go_roundw
                  case rel => exact ⟨q + 1, by go_num, by omega, HF.out⟩
                  case measure => simp [intOf]; omega
                · have HR2 := Lib.hid (show readDo (writeDo d at_ t).dk (q : Int) = ⟨(writeDo d at_ t).dk, readT d q, 0⟩ by rw [HR0.out, HTk.out, if_neg hqa])
                  have hne : ((readT d q).toList != (readT d q).toList) = false := by simp
                  clear HR0 HTk HR1
                  go_wp2_with fail
                  with_reducible refine (impl_read _ (writeDo d at_ t).dk q _ (HF.out.at_ (List.mem_cons_of_mem _ (List.mem_cons_of_mem _ (List.mem_cons_of_mem _ (List.mem_cons_of_mem _ List.mem_cons_self))))) (right_small HX.out.2.1)).mono ?_
                  intro e wx h
                  rw [HR2.out] at h
                  obtain ⟨ra, rb, rc, rd, rfl, ho, hb⟩ := h.parts
                  replace HF := Lib.hid (HF.out.lift hb)
                  clear h ho hb y1 y2 y3 y4 y5 y6 y7 y8 y9 y10 y11 y12 y13 y14 y15 y16
                  obtain ⟨y1, y2, y3, y4, y5, y6, y7, y8, y9, y10, y11, y12, y13, y14, y15, y16⟩ := HF.out.six
                  have hfd := fun W => field_data ra ((writeDo d at_ t).dk).S.length rb rc ((writeDo d at_ t).dk).P.length rd (readT d q) 0 W
                  dsimp only

                  go_wp2
                  go_roundw
                  case rel => exact ⟨q + 1, by go_num, by omega, HF.out⟩
                  case measure => simp [intOf]; omega
              · have hk0 : q = d.S.length := by omega
                go_wp2
                go_meet
                exact HF.out
          · go_wp2
            go_meet
            exact HF.out
        case rest => as_aux_lemma =>
          clear HF y1 y2 y3 y4 y5 y6 y7 y8 y9 y10 y11 y12 y13 y14 y15 y16
          have HF := Lib.hid hcut
          clear hcut
          obtain ⟨y1, y2, y3, y4, y5, y6, y7, y8, y9, y10, y11, y12, y13, y14, y15, y16⟩ := HF.out.six
          by_cases hf : (flushDo de).code = 0
          · have HFL := Lib.hid (flush_read hf)
            have HCS := Lib.hid (crash_some HFL.out.1 HKL.out)
            go_wp2_with fail
            with_reducible refine (impl_crash _ _ (flushDo de).dk kl _ (HF.out.at_ (List.mem_cons_of_mem _ List.mem_cons_self)) (HF.out.kp List.mem_cons_self) (right_small HFL.out.2.1) HKK.out).mono ?_
            intro e wh h
            rw [crash_flushed HFL.out.2.1 HFL.out.2.2.2.1 HKL.out] at h
            obtain ⟨H1, hc1, H2, hc2, rfl, ho, hb⟩ := h.told
            have HG := Lib.hid (((HF.out.lift hb).read ho.at_).box (.cells #[.slice H1 (flushDo de).dk.S.length hc1, .slice H2 (flushDo de).dk.P.length hc2] 26))
            clear h ho hb hf y1 y2 y3 y4 y5 y6 y7 y8 y9 y10 y11 y12 y13 y14 y15 y16 HF HBf HBx
            go_wp2
            go_loopw [19, 20, 21] (fun i s j wr => ∃ q : Nat, i = .int .i64 (q : Int) ∧ q ≤ de.S.length ∧ Fd w wr (.slice a0 len0 cap0) len0 (.slice a1 len1 cap1) len1 ((wh.heap.size, .cells #[.slice H1 (flushDo de).dk.S.length hc1, .slice H2 (flushDo de).dk.P.length hc2] 26 (0, 0)) :: [(w7.heap.size, .cells #[.slice G1 dg.S.length g1, .slice G2 dg.P.length g2] 26 (0, 0)), (w5.heap.size, .cells #[.slice F1 (flushDo de).dk.S.length f1, .slice F2 (flushDo de).dk.P.length f2, .string (flushDo de).data, .int .i64 (flushDo de).code] 30 (0, 0)), (w4.heap.size, .cells #[.slice C1 (crashDk de kl).S.length cc1, .slice C2 (crashDk de kl).P.length cc2] 26 (0, 0)), (w3.heap.size, .cells #[.slice E1 de.S.length e1, .slice E2 de.P.length e2] 26 (0, 0)), (w2.heap.size, .cells #[.slice A2x (writeDo d at_ t).dk.S.length c2x, .slice A3x (writeDo d at_ t).dk.P.length c3x, .string (writeDo d at_ t).data, .int .i64 (writeDo d at_ t).code] 30 (0, 0)), (w1.heap.size, .cells #[.slice A1 d.S.length c1, .slice A2 d.P.length c2] 26 (0, 0))]) (((.agg #[.slice H1 (flushDo de).dk.S.length hc1, .slice H2 (flushDo de).dk.P.length hc2]), (flushDo de).dk) :: [((.agg #[.slice G1 dg.S.length g1, .slice G2 dg.P.length g2]), dg), ((.agg #[.slice F1 (flushDo de).dk.S.length f1, .slice F2 (flushDo de).dk.P.length f2]), (flushDo de).dk), ((.agg #[.slice C1 (crashDk de kl).S.length cc1, .slice C2 (crashDk de kl).P.length cc2]), crashDk de kl), ((.agg #[.slice E1 de.S.length e1, .slice E2 de.P.length e2]), de), ((.agg #[.slice A2x (writeDo d at_ t).dk.S.length c2x, .slice A3x (writeDo d at_ t).dk.P.length c3x]), (writeDo d at_ t).dk), ((.agg #[.slice A1 d.S.length c1, .slice A2 d.P.length c2]), d)]) [(.slice K1 kl.length k1, kl)]) (fun i s j _ => de.S.length - (intOf i).toNat)
            case atStart => exact ⟨0, rfl, Nat.zero_le _, HG.out⟩
            case round =>
              clear HG
              obtain ⟨q, rfl, hq, hF⟩ := hrel
              have HF := Lib.hid hF
              clear hF
              obtain ⟨y1, y2, y3, y4, y5, y6, y7, y8, y9, y10, y11, y12, y13, y14, y15, y16⟩ := HF.out.tail.six; obtain ⟨x1, x2⟩ := HF.out.b2 List.mem_cons_self
              have hn1 := HDe.out.1
              by_cases hlt : q < de.S.length
              · have HRe := Lib.hid (read_at HFL.out.1 q hlt)
                have HRf := Lib.hid (show readDo (flushDo de).dk (q : Int) = ⟨(flushDo de).dk, readT de q, 0⟩ by rw [read_at HFL.out.2.1 q (by rw [HFL.out.2.2.1]; exact hlt), HFL.out.2.2.2.2 q hlt])
                go_upto_region 27 with fail
                go_cut [163] (fun y wx => y = .bool false ∧ Fd w wx (.slice a0 len0 cap0) len0 (.slice a1 len1 cap1) len1 ((wh.heap.size, .cells #[.slice H1 (flushDo de).dk.S.length hc1, .slice H2 (flushDo de).dk.P.length hc2] 26 (0, 0)) :: [(w7.heap.size, .cells #[.slice G1 dg.S.length g1, .slice G2 dg.P.length g2] 26 (0, 0)), (w5.heap.size, .cells #[.slice F1 (flushDo de).dk.S.length f1, .slice F2 (flushDo de).dk.P.length f2, .string (flushDo de).data, .int .i64 (flushDo de).code] 30 (0, 0)), (w4.heap.size, .cells #[.slice C1 (crashDk de kl).S.length cc1, .slice C2 (crashDk de kl).P.length cc2] 26 (0, 0)), (w3.heap.size, .cells #[.slice E1 de.S.length e1, .slice E2 de.P.length e2] 26 (0, 0)), (w2.heap.size, .cells #[.slice A2x (writeDo d at_ t).dk.S.length c2x, .slice A3x (writeDo d at_ t).dk.P.length c3x, .string (writeDo d at_ t).data, .int .i64 (writeDo d at_ t).code] 30 (0, 0)), (w1.heap.size, .cells #[.slice A1 d.S.length c1, .slice A2 d.P.length c2] 26 (0, 0))]) (((.agg #[.slice H1 (flushDo de).dk.S.length hc1, .slice H2 (flushDo de).dk.P.length hc2]), (flushDo de).dk) :: [((.agg #[.slice G1 dg.S.length g1, .slice G2 dg.P.length g2]), dg), ((.agg #[.slice F1 (flushDo de).dk.S.length f1, .slice F2 (flushDo de).dk.P.length f2]), (flushDo de).dk), ((.agg #[.slice C1 (crashDk de kl).S.length cc1, .slice C2 (crashDk de kl).P.length cc2]), crashDk de kl), ((.agg #[.slice E1 de.S.length e1, .slice E2 de.P.length e2]), de), ((.agg #[.slice A2x (writeDo d at_ t).dk.S.length c2x, .slice A3x (writeDo d at_ t).dk.P.length c3x]), (writeDo d at_ t).dk), ((.agg #[.slice A1 d.S.length c1, .slice A2 d.P.length c2]), d)]) [(.slice K1 kl.length k1, kl)])
                case first => as_aux_lemma =>
                  replace HF := Lib.hid HF.out.drew
                  have HS := Lib.hid (And.intro HF.out.tail.six (HF.out.b2 List.mem_cons_self))
                  clear y1 y2 y3 y4 y5 y6 y7 y8 y9 y10 y11 y12 y13 y14 y15 y16 x1 x2
                  have hne : ((readT de q).toList != (readT de q).toList) = false := by simp
                  go_region_held3 (fun W => (W.cell? ⟨w7.heap.size, 0, none⟩ = some (.slice G1 dg.S.length g1) ∧ W.cell? ⟨w7.heap.size, 1, none⟩ = some (.slice G2 dg.P.length g2) ∧ W.cell? ⟨w5.heap.size, 0, none⟩ = some (.slice F1 (flushDo de).dk.S.length f1) ∧ W.cell? ⟨w5.heap.size, 1, none⟩ = some (.slice F2 (flushDo de).dk.P.length f2) ∧ W.cell? ⟨w5.heap.size, 2, none⟩ = some (.string (flushDo de).data) ∧ W.cell? ⟨w5.heap.size, 3, none⟩ = some (.int .i64 (flushDo de).code) ∧ W.cell? ⟨w4.heap.size, 0, none⟩ = some (.slice C1 (crashDk de kl).S.length cc1) ∧ W.cell? ⟨w4.heap.size, 1, none⟩ = some (.slice C2 (crashDk de kl).P.length cc2) ∧ W.cell? ⟨w3.heap.size, 0, none⟩ = some (.slice E1 de.S.length e1) ∧ W.cell? ⟨w3.heap.size, 1, none⟩ = some (.slice E2 de.P.length e2) ∧ W.cell? ⟨w2.heap.size, 0, none⟩ = some (.slice A2x (writeDo d at_ t).dk.S.length c2x) ∧ W.cell? ⟨w2.heap.size, 1, none⟩ = some (.slice A3x (writeDo d at_ t).dk.P.length c3x) ∧ W.cell? ⟨w2.heap.size, 2, none⟩ = some (.string (writeDo d at_ t).data) ∧ W.cell? ⟨w2.heap.size, 3, none⟩ = some (.int .i64 (writeDo d at_ t).code) ∧ W.cell? ⟨w1.heap.size, 0, none⟩ = some (.slice A1 d.S.length c1) ∧ W.cell? ⟨w1.heap.size, 1, none⟩ = some (.slice A2 d.P.length c2)) ∧ (W.cell? ⟨wh.heap.size, 0, none⟩ = some (.slice H1 (flushDo de).dk.S.length hc1) ∧ W.cell? ⟨wh.heap.size, 1, none⟩ = some (.slice H2 (flushDo de).dk.P.length hc2))) (exact HS.out) (first
                    | (go_at_call 19; (with_reducible refine (impl_read _ (flushDo de).dk q _ (HF.out.at_ (List.mem_cons_of_mem _ (List.mem_cons_of_mem _ List.mem_cons_self))) (right_small HFL.out.2.1)).mono ?_); intro e wx h; rw [HRf.out] at h; obtain ⟨ra, rb, rc, rd, rfl, ho, hb⟩ := h.parts; replace HF := Lib.hid (HF.out.lift hb); have HS := Lib.hid (And.intro HF.out.tail.six (HF.out.b2 List.mem_cons_self)); have hfd := (fun W => field_data ra ((flushDo de).dk).S.length rb rc ((flushDo de).dk).P.length rd (readT de q) 0 W); clear h ho hb)
                    | (go_at_call 20; (with_reducible refine (spec_read _ de q _ (HF.out.at_ (List.mem_cons_of_mem _ (List.mem_cons_of_mem _ (List.mem_cons_of_mem _ (List.mem_cons_of_mem _ List.mem_cons_self))))) HDe.out.small).mono ?_); intro e wx h; rw [HRe.out] at h; obtain ⟨ra, rb, rc, rd, rfl, ho, hb⟩ := h.parts; replace HF := Lib.hid (HF.out.lift hb); have HS := Lib.hid (And.intro HF.out.tail.six (HF.out.b2 List.mem_cons_self)); have hfd := (fun W => field_data ra (de).S.length rb rc (de).P.length rd (readT de q) 0 W); clear h ho hb)
                    | (go_at_call 19; (with_reducible refine (impl_read _ (flushDo de).dk q _ (HF.out.at_ List.mem_cons_self) (right_small HFL.out.2.1)).mono ?_); intro e wx h; rw [HRf.out] at h; obtain ⟨ra, rb, rc, rd, rfl, ho, hb⟩ := h.parts; replace HF := Lib.hid (HF.out.lift hb); have HS := Lib.hid (And.intro HF.out.tail.six (HF.out.b2 List.mem_cons_self)); have hfd := (fun W => field_data ra ((flushDo de).dk).S.length rb rc ((flushDo de).dk).P.length rd (readT de q) 0 W); clear h ho hb))
                  go_wp2_with fail
                  go_meet
                  exact ⟨rfl, HF.out⟩
                case rest =>
                  obtain ⟨rfl, hF⟩ := hcut
                  replace HF := Lib.hid hF
                  clear hF y1 y2 y3 y4 y5 y6 y7 y8 y9 y10 y11 y12 y13 y14 y15 y16 x1 x2 HRe HRf
                  obtain ⟨y1, y2, y3, y4, y5, y6, y7, y8, y9, y10, y11, y12, y13, y14, y15, y16⟩ := HF.out.tail.six; obtain ⟨x1, x2⟩ := HF.out.b2 List.mem_cons_self
                  have hltc : q < (crashDk de kl).S.length := by rw [HCS.out.2.1]; exact hlt
                  obtain ⟨ad, c', e', _, hce⟩ := (HF.out.at_ (List.mem_cons_of_mem _ (List.mem_cons_of_mem _ (List.mem_cons_of_mem _ (List.mem_cons_of_mem _ List.mem_cons_self))))).rows.1.one q hlt
                  simp only [Value.slice.injEq, true_and] at e'
                  obtain ⟨rfl, rfl⟩ := e'
                  obtain ⟨ac, c'', e'', _, hcc⟩ := (HF.out.at_ (List.mem_cons_of_mem _ (List.mem_cons_of_mem _ (List.mem_cons_of_mem _ List.mem_cons_self)))).rows.1.one q hltc
                  simp only [Value.slice.injEq, true_and] at e''
                  obtain ⟨rfl, rfl⟩ := e''
                  obtain ⟨se, hse⟩ : ∃ s, de.S[q] = s := ⟨_, rfl⟩
                  obtain ⟨sc, hsc⟩ : ∃ s, (crashDk de kl).S[q] = s := ⟨_, rfl⟩
                  have HSO := Lib.hid (HCS.out.2.2 q se sc (by rw [List.getElem?_eq_getElem hlt, hse]) (by rw [List.getElem?_eq_getElem hltc, hsc]))
                  rw [hse] at hce
                  rw [hsc] at hcc
                  have hq1 : (q : Int) < (de.S.length : Int) := by omega
                  have hq2 : (q : Int) < ((crashDk de kl).S.length : Int) := by omega
                  have hwq : IntKind.i64.wrap ((q : Int) + 1) = (q : Int) + 1 := IntWalk.i64_in _ (by omega)
                  have HSC := Lib.hid hsc
                  clear hse hsc
                  go_wp2
                  go_quiet (fail)
                  go_wp2
                  go_loopw [20, 21] (fun s j wr => ∃ (b : Bool) (p : Nat), s = .bool b ∧ j = .int .i64 (p : Int) ∧ p ≤ de.P.length ∧ (b = false → ¬ sc = se ∧ ∀ i : Nat, i < p → ¬ de.P[i]? = some ((q : Int), sc)) ∧ Fd w wr (.slice a0 len0 cap0) len0 (.slice a1 len1 cap1) len1 ((wh.heap.size, .cells #[.slice H1 (flushDo de).dk.S.length hc1, .slice H2 (flushDo de).dk.P.length hc2] 26 (0, 0)) :: [(w7.heap.size, .cells #[.slice G1 dg.S.length g1, .slice G2 dg.P.length g2] 26 (0, 0)), (w5.heap.size, .cells #[.slice F1 (flushDo de).dk.S.length f1, .slice F2 (flushDo de).dk.P.length f2, .string (flushDo de).data, .int .i64 (flushDo de).code] 30 (0, 0)), (w4.heap.size, .cells #[.slice (some ac) (crashDk de kl).S.length cc1, .slice C2 (crashDk de kl).P.length cc2] 26 (0, 0)), (w3.heap.size, .cells #[.slice (some ad) de.S.length e1, .slice E2 de.P.length e2] 26 (0, 0)), (w2.heap.size, .cells #[.slice A2x (writeDo d at_ t).dk.S.length c2x, .slice A3x (writeDo d at_ t).dk.P.length c3x, .string (writeDo d at_ t).data, .int .i64 (writeDo d at_ t).code] 30 (0, 0)), (w1.heap.size, .cells #[.slice A1 d.S.length c1, .slice A2 d.P.length c2] 26 (0, 0))]) (((.agg #[.slice H1 (flushDo de).dk.S.length hc1, .slice H2 (flushDo de).dk.P.length hc2]), (flushDo de).dk) :: [((.agg #[.slice G1 dg.S.length g1, .slice G2 dg.P.length g2]), dg), ((.agg #[.slice F1 (flushDo de).dk.S.length f1, .slice F2 (flushDo de).dk.P.length f2]), (flushDo de).dk), ((.agg #[.slice (some ac) (crashDk de kl).S.length cc1, .slice C2 (crashDk de kl).P.length cc2]), crashDk de kl), ((.agg #[.slice (some ad) de.S.length e1, .slice E2 de.P.length e2]), de), ((.agg #[.slice A2x (writeDo d at_ t).dk.S.length c2x, .slice A3x (writeDo d at_ t).dk.P.length c3x]), (writeDo d at_ t).dk), ((.agg #[.slice A1 d.S.length c1, .slice A2 d.P.length c2]), d)]) [(.slice K1 kl.length k1, kl)]) (fun s j _ => de.P.length - (intOf j).toNat)
                  case atStart => exact ⟨_, 0, rfl, rfl, Nat.zero_le _, fun h => ⟨fun e => by subst e; simp at h, fun i hi => absurd hi (Nat.not_lt_zero i)⟩, HF.out.drewN _⟩
                  case round =>
                    clear HF y1 y2 y3 y4 y5 y6 y7 y8 y9 y10 y11 y12 y13 y14 y15 y16 x1 x2 hce hcc
                    obtain ⟨b, p, rfl, rfl, hp, hB, hF⟩ := hrel
                    have HF := Lib.hid hF; have HB := Lib.hid hB
                    clear hF hB
                    obtain ⟨y1, y2, y3, y4, y5, y6, y7, y8, y9, y10, y11, y12, y13, y14, y15, y16⟩ := HF.out.tail.six; obtain ⟨x1, x2⟩ := HF.out.b2 List.mem_cons_self
                    obtain ⟨ac', c3, e3, _, hcc⟩ := (HF.out.at_ (List.mem_cons_of_mem _ (List.mem_cons_of_mem _ (List.mem_cons_of_mem _ List.mem_cons_self)))).rows.1.one q hltc
                    simp only [Value.slice.injEq, true_and, Option.some.injEq] at e3
                    obtain ⟨rfl, rfl⟩ := e3
                    rw [HSC.out] at hcc
                    have hnp := HDe.out.2.2.1
                    by_cases hlp : p < de.P.length
                    · obtain ⟨ap, c4, e4, _, hp1, hp2⟩ := (HF.out.at_ (List.mem_cons_of_mem _ (List.mem_cons_of_mem _ (List.mem_cons_of_mem _ (List.mem_cons_of_mem _ List.mem_cons_self))))).rows.2.two p hlp
                      simp only [Value.slice.injEq, true_and] at e4
                      obtain ⟨rfl, rfl⟩ := e4
                      obtain ⟨pp, hpp⟩ : ∃ x, x = de.P[p] := ⟨_, rfl⟩
                      rw [← hpp] at hp1 hp2
                      have HPP := Lib.hid (show de.P[p]? = some pp by rw [List.getElem?_eq_getElem hlp, hpp])
                      have hp3 : (p : Int) < (de.P.length : Int) := by omega
                      have hwp : IntKind.i64.wrap ((p : Int) + 1) = (p : Int) + 1 := IntWalk.i64_in _ (by omega)
                      clear hpp
                      cases b
                      · have HB1 := Lib.hid (HB.out rfl)
                        by_cases ha : pp.1 = (q : Int)
                        · have ha' : (pp.1 == (q : Int)) = true := by simp [ha]
                          by_cases hs : pp.2 = sc
                          · have hs' : (pp.2.toList == sc.toList) = true := by simp [hs]
                            clear ha hs
                            go_wp2
                            go_quiet (fail)
                            go_wp2
                            go_roundw
                            case rel => exact ⟨true, p + 1, rfl, by go_num, by omega, (fun h => by cases h), HF.out.drewN _⟩
                            case measure => simp [intOf]; omega
                          · have hs' : (pp.2.toList == sc.toList) = false := by
                              rw [beq_eq_false_iff_ne]
                              exact fun e => hs (toList_inj e)
                            have HN := Lib.hid (show ¬ pp = ((q : Int), sc) from fun e => hs (by rw [e]))
                            clear ha hs
                            go_wp2
                            go_quiet (fail)
                            go_wp2
                            go_roundw
                            case rel => exact ⟨false, p + 1, rfl, by go_num, by omega, fun _ => ⟨HB1.out.1, none_more HB1.out.2 HPP.out HN.out⟩, HF.out.drewN _⟩
                            case measure => simp [intOf]; omega
                        · have ha' : (pp.1 == (q : Int)) = false := by simp [ha]
                          have HN := Lib.hid (show ¬ pp = ((q : Int), sc) from fun e => ha (by rw [e]))
                          clear ha
                          go_wp2
                          go_quiet (fail)
                          go_wp2
                          go_roundw
                          case rel => exact ⟨false, p + 1, rfl, by go_num, by omega, fun _ => ⟨HB1.out.1, none_more HB1.out.2 HPP.out HN.out⟩, HF.out.drewN _⟩
                          case measure => simp [intOf]; omega
                      · go_wp2
                        go_quiet (fail)
                        go_wp2
                        go_roundw
                        case rel => exact ⟨true, p + 1, rfl, by go_num, by omega, (fun h => by cases h), HF.out.drewN _⟩
                        case measure => simp [intOf]; omega
                    · cases b
                      · exfalso
                        have h := HB.out rfl
                        rcases HSO.out with e | ⟨j, hj⟩
                        · exact h.1 e
                        · have hjl := (List.getElem?_eq_some_iff.1 hj).1
                          exact h.2 j (by omega) hj
                      · go_wp2
                        go_roundw
                        case rel => exact ⟨q + 1, by go_num, by omega, HF.out⟩
                        case measure => simp [intOf]; omega
              · have hq0 : q = de.S.length := by omega
                have hcp : (crashDk de kl).P.length = 0 := by rw [HCS.out.1]; rfl
                go_wp2
                go_ret
                exact ⟨rfl, HF.out.bel⟩
          · go_wp2
            go_ret
            exact ⟨rfl, HF.out.bel⟩

theorem laidOut : laidOutB Try.prog = true := by kernel_rfl
theorem own : ownKnob Try.prog.godebug = none := by kernel_rfl

set_option maxRecDepth 100000 in
theorem lifted (os : Os) (started : os.Started) (H : Type) (enc : TypeId × Value → H) :
    ReturnsInHanded {} Try.checked os 3 .any (Rows.fnDiskSpec.pre6 enc Try.prog Try.f3 Rows.fnDiskRow.domain false) (Rows.fnDiskSpec.post enc Try.prog Try.f3 false true false false) := by
  refine returnsInHanded_of_change (C := Try.checked) own started (by kernel_rfl) Try.func3
    (ChangeSpec.witness6 (enc := enc) (C := Try.checked) false ⟨#[], #[.slice none 0 0, .slice none 0 0], []⟩ 8 (by kernel_rfl) (by kernel_rfl) (by kernel_rfl) (by kernel_rfl)) ?_
  intro W base args ds gs before hval0 hW hcnd _
  have hval : ∀ (j : Nat) t v, Try.f3.params[j]? = some t → args[j]? = some v → Value.okWide Try.prog W .any base t v := hval0
  have hW' := hW
  obtain ⟨p, q, hA0, hV, rfl, hfz, hnd⟩ := hW
  have hA : DataW.TrodAll enc Try.prog W 0 (fun _ => true) true Try.f3.params.toList args.toList ds p := hA0
  rw [Try.params3] at hA hval
  obtain ⟨v0, vs0, d0, ds0, p0, q0, hargs, rfl, rfl, h0, r0⟩ := trodAll_cons hA
  obtain ⟨v1, vs1, d1, ds1, p1, q1, rfl, rfl, rfl, h1, r1⟩ := trodAll_cons r0
  obtain ⟨rfl, rfl, rfl⟩ := trodAll_nil r1
  obtain rfl : args = #[v0, v1] := by cases args; simp_all
  obtain ⟨rfl, rfl⟩ := trodVars_none hV
  obtain ⟨a0, len0, cap0, rfl⟩ := okWide_slice Try.underlying22 (hval 0 22 v0 rfl rfl)
  have k0 := h0
  have lt0 : ∀ x ∈ p0, x.block < W.heap.size := by obtain ⟨m, hm⟩ := k0; exact DataW.trod_lt m _ _ _ hm
  obtain ⟨z0, w0⟩ : ∃ zs, IsRow .u8 W a0 len0 cap0 zs := by
    obtain ⟨fuel, hf⟩ := h0
    rcases open_ints Try.underlying22 Try.underlying5 (by kernel_rfl) hf with ⟨hcs, _⟩ | ⟨x, l, c, zs, hcs, _, hl, hm, hz, _, hcell, hwz⟩
    · simp [Value.cells] at hcs
      obtain ⟨rfl, rfl, rfl⟩ := hcs
      exact ⟨[], .inl ⟨rfl, rfl, rfl, rfl⟩⟩
    · simp [Value.cells] at hcs
      obtain ⟨rfl, rfl, rfl⟩ := hcs
      exact ⟨zs, .inr ⟨_, rfl, hl, hm, by simpa using hz, hcell, hwz⟩⟩
  obtain ⟨a1, len1, cap1, rfl⟩ := okWide_slice Try.underlying22 (hval 1 22 v1 rfl rfl)
  have k1 := h1
  have lt1 : ∀ x ∈ p1, x.block < W.heap.size := by obtain ⟨m, hm⟩ := k1; exact DataW.trod_lt m _ _ _ hm
  obtain ⟨z1, w1⟩ : ∃ zs, IsRow .u8 W a1 len1 cap1 zs := by
    obtain ⟨fuel, hf⟩ := h1
    rcases open_ints Try.underlying22 Try.underlying5 (by kernel_rfl) hf with ⟨hcs, _⟩ | ⟨x, l, c, zs, hcs, _, hl, hm, hz, _, hcell, hwz⟩
    · simp [Value.cells] at hcs
      obtain ⟨rfl, rfl, rfl⟩ := hcs
      exact ⟨[], .inl ⟨rfl, rfl, rfl, rfl⟩⟩
    · simp [Value.cells] at hcs
      obtain ⟨rfl, rfl, rfl⟩ := hcs
      exact ⟨zs, .inr ⟨_, rfl, hl, hm, by simpa using hz, hcell, hwz⟩⟩
  clear hA0 hval0
  simp only [List.append_nil] at hW'
  refine (walk a0 len0 cap0 z0 a1 len1 cap1 z1 W w0 w1).mono fun e W' ⟨he, bel⟩ => ?_
  subst he
  exact ⟨_, rfl, _, _, _, [], _, [], hW', trodAll_mk1 (shut_bool Try.underlying4 _), (trodAll_cons_mk (Below.trod laidOut (by kernel_rfl) (of_decide_eq_true (by kernel_rfl)) k0 bel lt0) (trodAll_cons_mk (Below.trod laidOut (by kernel_rfl) (of_decide_eq_true (by kernel_rfl)) k1 bel lt1) trodAll_mk0)), rfl, bel.frame _, fun h => by cases h⟩

theorem over : Rows.fnDiskRow.holds Try.pinned (OpenSpec.ofChange Rows.fnDiskSpec) :=
  OpenClaim.holds_of_wide 3 Try.f3 rfl rfl rfl rfl rfl rfl rfl ⟨rfl, rfl, rfl, rfl, rfl⟩ rfl rfl rfl rfl rfl (by kernel_rfl) Try.func3 (by kernel_rfl)
    (of_decide_eq_true (by kernel_rfl)) (by unfold Func.isWrapper; first | (rw [if_pos (by decide +kernel)]; kernel_rfl) | (rw [if_neg (by decide +kernel)]; exact ⟨rfl, rfl⟩))
    (fun os started H enc _ => lifted os started H enc)

theorem proved : Rows.FnDiskSaid := over
#print axioms proved
end Go.Proofs.Ytdllbnlimnahaaa.FnDisk
