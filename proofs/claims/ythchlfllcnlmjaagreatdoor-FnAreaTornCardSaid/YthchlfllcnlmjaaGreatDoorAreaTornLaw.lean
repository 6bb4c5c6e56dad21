/-
  Whatever bytes come in, and whatever the listed variables' errors, FnAreaTorn returns true: wherever the power goes while a text is put, what is read is the text ahead or the new one.
-/
import Derived.Test.YthchlfllcnlmjaaGreatDoorAreaDraws
import Derived.Test.YthchlfllcnlmjaaGreatDoorFdA
import Derived.Test.YthchlfllcnlmjaaGreatDoorAreaM
import Derived.Test.YthchlfllcnlmjaaGreatDoorTornM
import Derived.Test.YthchlfllcnlmjaaGreatDoorPutI
import Derived.Test.YthchlfllcnlmjaaGreatDoorPutS
import Derived.Test.YthchlfllcnlmjaaGreatDoorAReadI
import Derived.Test.YthchlfllcnlmjaaGreatDoorAReadS
import Derived.Test.YthchlfllcnlmjaaGreatDoorFormatI
import Derived.Test.YthchlfllcnlmjaaGreatDoorFormatS
import Derived.Test.YthchlfllcnlmjaaGreatDoorRoomS
import Derived.Deep.RegionWith
import Derived.Deep.DeepCutAuto
import Derived.Test.YthchlfllcnlmjaaGreatDoorRows
import Derived.Test.YthchlfllcnlmjaaGreatDoorTie
import Derived.Test.YthchlfllcnlmjaaGreatDoorCards
import Derived.WalkKit
import Derived.ProofKit
import Derived.OpenShut
import Derived.ShutString
import Derived.ChangeOld
import Derived.Below
import Derived.Lib.Hide
import Derived.ChangeSame
import Derived.ChangeVars
import Derived.JoinedOf
import Derived.RowKit
import Derived.RowKitTokens
import Derived.LaidLaws
import Derived.LaidHandle
import Derived.Stop.Joined
import Derived.SevenTiedAt
import Derived.OpenVars
import Derived.Stop.LaidTwo
import Derived.Stop.LaidErr
import Derived.LaidSub
import Derived.MakeChecks
import Derived.Stop.JoinedAt
import Derived.Stop.Texts
namespace Go.Proofs.YthchlfllcnlmjaaGreatDoor.FnAreaTorn
open Go.ChangeShapes Go.WideShapes Go.ChangeAt Go.RowKit
open Go.ChangeMaps (open_string shut_string)
open Go.Extern.Stop Go.Stop Go.Extern Go.Kit
set_option linter.unusedVariables false

/-- A value that tells the answer o, its parts named. -/
def AoSl (o : Ao) (u : Value) : Prop := ∃ (A1 : Option Addr) (c1 : Nat) (A2 : Option Addr) (c2 : Nat), u = .agg #[.slice A1 o.dk.S.length c1, .slice A2 o.dk.P.length c2, .string o.text, .int .i64 o.gen, .int .i64 o.code]
theorem ao_sl {W W' : World} {o : Ao} {e : Ending} (h : OwnsAo W o e W') : ∃ u, e = .returned u ∧ Below W.heap.size W W' ∧ AoSl o u ∧ AoAt o u W' := by
  obtain ⟨A1, c1, A2, c2, rfl, ho, hb⟩ := h.parts
  exact ⟨_, rfl, hb, ⟨_, _, _, _, rfl⟩, _, _, rfl, ho.at_⟩
theorem field_area3 (A1 : Option Addr) (n1 c1 : Nat) (A2 : Option Addr) (n2 c2 : Nat) (t : ByteArray) (g c : Int) (W : World) : (Instr.field 31 (.agg #[.slice A1 n1 c1, .slice A2 n2 c2, .string t, .int .i64 g, .int .i64 c]) 3).run Tryz.prog W = .ok (.int .i64 c) W := by kernel_rfl

set_option maxRecDepth 100000 in
set_option maxHeartbeats 16000000 in
theorem walk (a0 : Option Addr) (len0 cap0 : Nat) (z0 : List Int) (a1 : Option Addr) (len1 cap1 : Nat) (z1 : List Int) (w : World) {e0 e1 e2 e3 : Addr} (w0 : IsRow .u8 w a0 len0 cap0 z0) (w1 : IsRow .u8 w a1 len1 cap1 z1) (hE : Sents w e0 e1 e2 e3) (hT : ErrVar w) :
    Calls Tryz.prog 4 #[.slice a0 len0 cap0, .slice a1 len1 cap1] w fun e w' => e = .returned (.bool true) ∧ Below w.heap.size w w' := by
  by_cases h0 : 1048576 < len0
  · have h0' : 1048576 < (len0 : Int) := by omega
    clear w0 w1 h0 hE hT
    go_enter Tryz.func4, Tryz.ntmps4
    go_wp2
    go_ret
    exact ⟨rfl, Below.refl _ _⟩
  by_cases h1 : 1048576 < len1
  · have h0' : ¬ 1048576 < (len0 : Int) := by omega
    have h1' : 1048576 < (len1 : Int) := by omega
    clear w0 w1 h0 h1 hE hT
    go_enter Tryz.func4, Tryz.ntmps4
    go_wp2
    go_ret
    exact ⟨rfl, Below.refl _ _⟩
  have h0' : ¬ 1048576 < (len0 : Int) := by omega
  have h1' : ¬ 1048576 < (len1 : Int) := by omega
  have HF := Lib.hid (show Fd w w (.slice a0 len0 cap0) len0 (.slice a1 len1 cap1) len1 [] [] [] from ⟨Below.refl _ _, by simp, by simp, by simp, w0.code (by omega), w1.code (by omega)⟩)
  have HIR := Lib.hid (fun v d W (h : DkAt W W.heap.size v d) (hd : Small d) (hb : Below w.heap.size w W) => impl_aread v d W h hd (hE.lift hb) (hT.lift hb))
  have HIP := Lib.hid (fun v d t n W (h : DkAt W W.heap.size v d) (hd : Small d) (ht : t.size ≤ 1048576) (hb : Below w.heap.size w W) => impl_aput v d t n W h hd ht (hE.lift hb) (hT.lift hb))
  clear w0 w1 h0 h1 hE hT
  go_enter Tryz.func4, Tryz.ntmps4
  -- d, t, steps
  go_wp2_with fail
  refine (draw_areaput _ len0 _ HF.out.c1).mono ?_
  rintro e w1 ⟨A1, c1, A2, c2, d, n, t, rfl, hd, n0, n1, ht, ho, hb⟩
  have HDd := Lib.hid hd.small
  have HT := Lib.hid ht
  have HTT := Lib.hid (show t.size ≤ 1048576 by omega)
  replace HF := Lib.hid (((HF.out.lift hb).read ho.at_).box (.cells #[.slice A1 d.S.length c1, .slice A2 d.P.length c2] 26))
  clear hd ht ho hb
  -- keep
  go_wp2_with fail
  refine (draw_diskcrash _ len1 _ HF.out.c2).mono ?_
  rintro e w2 ⟨B1, b1, B2, b2, de, vk, kl, rfl, ho, hd, hok, hkl, hb⟩
  obtain ⟨K1, kc1, rfl⟩ := hok.form
  have HKS := Lib.hid (show kl.length ≤ 400 by omega)
  have HKK := Lib.hid (show kl.length ≤ 1048576 by omega)
  replace HF := Lib.hid ((((HF.out.lift hb).read ho.at_).keep (hok.sl encI_len)).box (.cells #[.slice B1 de.S.length b1, .slice B2 de.P.length b2] 26))
  clear hd ho hok hkl hb
  obtain ⟨d0, d1⟩ := HF.out.b2 (List.mem_cons_of_mem _ List.mem_cons_self)
  -- was
  go_wp2_with fail
  refine (spec_aread _ d _ (HF.out.at_ (List.mem_cons_of_mem _ List.mem_cons_self)) HDd.out).mono ?_
  intro e w4 h
  obtain ⟨X1, x1, X2, x2, rfl, ho, hb⟩ := h.parts
  replace HF := Lib.hid (((HF.out.lift hb).read ho.at_).box (.cells #[.slice X1 (readAo d).dk.S.length x1, .slice X2 (readAo d).dk.P.length x2, .string (readAo d).text, .int .i64 (readAo d).gen, .int .i64 (readAo d).code] 31))
  clear h ho hb d0 d1
  obtain ⟨d0, d1⟩ := HF.out.b2 (List.mem_cons_of_mem _ (List.mem_cons_of_mem _ List.mem_cons_self))
  -- x
  go_wp2_with fail
  refine (HIP.out _ d t n _ (HF.out.at_ (List.mem_cons_of_mem _ (List.mem_cons_of_mem _ List.mem_cons_self))) HDd.out HTT.out HF.out.bel).mono ?_
  intro e w5 h
  obtain ⟨Y1, y1, Y2, y2, rfl, ho, hb⟩ := h.parts
  replace HF := Lib.hid (((HF.out.lift hb).read ho.at_).box (.cells #[.slice Y1 (putAo d t n).dk.S.length y1, .slice Y2 (putAo d t n).dk.P.length y2, .string (putAo d t n).text, .int .i64 (putAo d t n).gen, .int .i64 (putAo d t n).code] 31))
  clear h ho hb d0 d1
  obtain ⟨d0, d1⟩ := HF.out.b2 (List.mem_cons_of_mem _ (List.mem_cons_of_mem _ (List.mem_cons_of_mem _ List.mem_cons_self)))
  -- y
  go_wp2_with fail
  refine (HIP.out _ d t 1000 _ (HF.out.at_ (List.mem_cons_of_mem _ (List.mem_cons_of_mem _ (List.mem_cons_of_mem _ List.mem_cons_self)))) HDd.out HTT.out HF.out.bel).mono ?_
  intro e w6 h
  obtain ⟨Z1, z1, Z2, z2, rfl, ho, hb⟩ := h.parts
  replace HF := Lib.hid (((HF.out.lift hb).read ho.at_).box (.cells #[.slice Z1 (putAo d t 1000).dk.S.length z1, .slice Z2 (putAo d t 1000).dk.P.length z2, .string (putAo d t 1000).text, .int .i64 (putAo d t 1000).gen, .int .i64 (putAo d t 1000).code] 31))
  clear h ho hb d0 d1
  -- what is known of the answers
  have HBS := Lib.hid (put_lim d t n)
  have HTN := Lib.hid (fun h1 h2 => put_torn (d := d) (t := t) (steps := n) (kl := kl) h1 HKS.out h2)
  have HWN := Lib.hid (fun h => put_whole (d := d) (t := t) (kl := kl) HKS.out h)
  have HSR := Lib.hid (fun h => put_good d t n h)
  have HYA := Lib.hid (fun h => put_back (d := d) (t := t) h)
  have HYG := Lib.hid (fun h => put_gen (d := d) (t := t) (steps := 1000) h)
  have HYR := Lib.hid (fun h => put_good d t 1000 h)
  have HSP := Lib.hid (fun v W (h : DkAt W W.heap.size v d) => spec_aput v d t 1000 W h HDd.out HTT.out)
  have HSPn := Lib.hid (fun v W (h : DkAt W W.heap.size v d) => spec_aput v d t n W h HDd.out HTT.out)
  clear HIP HDd HTT HT
  generalize readAo d = ox at *
  generalize putAo d t 1000 = oy at *
  generalize putAo d t n = os at *
  have hss : (os.code != os.code) = false := by simp
  have hss' : (os.code == os.code) = true := by simp
  have hyy' : (oy.code == oy.code) = true := by simp
  by_cases hxc : os.code = 0
  · have hx1 : (os.code != 0) = false := by simp [hxc]
    have HXC := Lib.hid hxc; clear hxc
    by_cases hyc : oy.code = 0
    · have hy1 : (oy.code != 0) = false := by simp [hyc]
      have HYC := Lib.hid hyc; clear hyc
      by_cases hpc : d.P = []
      · have hp1 : ¬ (0 : Int) < (d.P.length : Int) := by simp [hpc]
        have HPC := Lib.hid hpc; clear hpc
        go_upto_region 8 with fail
        refine wp_region_calm_fd [(5, AoSl os, AoAt os), (14, AoSl os, AoAt os), (16, (fun u => u = .bool true), (fun _ _ => True))] (by kernel_rfl) (by kernel_rfl) (by
          intro q hq v
          simp only [List.mem_cons, List.not_mem_nil, or_false] at hq
          rcases hq with rfl | rfl | rfl
          · exact AoAt.mono _ v
          · exact AoAt.mono _ v
          · exact mono_true) HF.out ?_
        repeat (first
          | (refine calm_skip (by rfl) ?_; try simp only [Act.put, List.setIfInBounds_toArray, List.set_cons_zero, List.set_cons_succ])
          | (refine calm_plain (by rfl) (by rfl) ?_; apply Exists.intro; refine ⟨fun wc hC hD => ?_, ?_⟩; (focus (clear hD; obtain ⟨p0, p1, p2, p3, p4⟩ := hC.b5 List.mem_cons_self; obtain ⟨q0, q1, q2, q3, q4⟩ := hC.b5 (List.mem_cons_of_mem _ List.mem_cons_self); obtain ⟨s0, s1, s2, s3, s4⟩ := hC.b5 (List.mem_cons_of_mem _ (List.mem_cons_of_mem _ List.mem_cons_self)); obtain ⟨u0, u1⟩ := hC.b2 (List.mem_cons_of_mem _ (List.mem_cons_of_mem _ (List.mem_cons_of_mem _ List.mem_cons_self))); obtain ⟨d0, d1⟩ := hC.b2 (List.mem_cons_of_mem _ (List.mem_cons_of_mem _ (List.mem_cons_of_mem _ (List.mem_cons_of_mem _ List.mem_cons_self)))); clear hC; go_simp; first | done | with_reducible rfl)); try simp only [Act.put, List.setIfInBounds_toArray, List.set_cons_zero, List.set_cons_succ]))
        refine calm_call _ _ (by rfl) (by rfl) ?_ ?_
        focus
          apply Exists.intro
          apply Exists.intro
          refine ⟨fun wc hC hD => ?_, fun wc hC hD => ?_⟩
          focus (clear hD; obtain ⟨p0, p1, p2, p3, p4⟩ := hC.b5 List.mem_cons_self; obtain ⟨q0, q1, q2, q3, q4⟩ := hC.b5 (List.mem_cons_of_mem _ List.mem_cons_self); obtain ⟨s0, s1, s2, s3, s4⟩ := hC.b5 (List.mem_cons_of_mem _ (List.mem_cons_of_mem _ List.mem_cons_self)); obtain ⟨u0, u1⟩ := hC.b2 (List.mem_cons_of_mem _ (List.mem_cons_of_mem _ (List.mem_cons_of_mem _ List.mem_cons_self))); obtain ⟨d0, d1⟩ := hC.b2 (List.mem_cons_of_mem _ (List.mem_cons_of_mem _ (List.mem_cons_of_mem _ (List.mem_cons_of_mem _ List.mem_cons_self)))); clear hC; go_simp; first | done | with_reducible exact ⟨rfl, rfl⟩)
          clear hD
          with_reducible refine (HSPn.out _ _ (hC.at_ (List.mem_cons_of_mem _ (List.mem_cons_of_mem _ (List.mem_cons_of_mem _ (List.mem_cons_of_mem _ List.mem_cons_self)))))).mono ?_
          intro e wx h
          exact ao_sl h
        rintro _ ⟨ga5, gb5, gc5, gd5, rfl⟩
        have hfa5 := fun W => field_area ga5 os.dk.S.length gb5 gc5 os.dk.P.length gd5 os.text os.gen os.code W
        have hfb5 := fun W => field_area3 ga5 os.dk.S.length gb5 gc5 os.dk.P.length gd5 os.text os.gen os.code W
        try simp only [Act.put, List.setIfInBounds_toArray, List.set_cons_zero, List.set_cons_succ]
        repeat (first
          | (refine calm_skip (by rfl) ?_; try simp only [Act.put, List.setIfInBounds_toArray, List.set_cons_zero, List.set_cons_succ])
          | (refine calm_plain (by rfl) (by rfl) ?_; apply Exists.intro; refine ⟨fun wc hC hD => ?_, ?_⟩; (focus (clear hD; obtain ⟨p0, p1, p2, p3, p4⟩ := hC.b5 List.mem_cons_self; obtain ⟨q0, q1, q2, q3, q4⟩ := hC.b5 (List.mem_cons_of_mem _ List.mem_cons_self); obtain ⟨s0, s1, s2, s3, s4⟩ := hC.b5 (List.mem_cons_of_mem _ (List.mem_cons_of_mem _ List.mem_cons_self)); obtain ⟨u0, u1⟩ := hC.b2 (List.mem_cons_of_mem _ (List.mem_cons_of_mem _ (List.mem_cons_of_mem _ List.mem_cons_self))); obtain ⟨d0, d1⟩ := hC.b2 (List.mem_cons_of_mem _ (List.mem_cons_of_mem _ (List.mem_cons_of_mem _ (List.mem_cons_of_mem _ List.mem_cons_self)))); clear hC; go_simp; first | done | with_reducible rfl)); try simp only [Act.put, List.setIfInBounds_toArray, List.set_cons_zero, List.set_cons_succ]))
        refine calm_call _ _ (by rfl) (by rfl) ?_ ?_
        focus
          apply Exists.intro
          apply Exists.intro
          refine ⟨fun wc hC hD => ?_, fun wc hC hD => ?_⟩
          focus (clear hD; obtain ⟨p0, p1, p2, p3, p4⟩ := hC.b5 List.mem_cons_self; obtain ⟨q0, q1, q2, q3, q4⟩ := hC.b5 (List.mem_cons_of_mem _ List.mem_cons_self); obtain ⟨s0, s1, s2, s3, s4⟩ := hC.b5 (List.mem_cons_of_mem _ (List.mem_cons_of_mem _ List.mem_cons_self)); obtain ⟨u0, u1⟩ := hC.b2 (List.mem_cons_of_mem _ (List.mem_cons_of_mem _ (List.mem_cons_of_mem _ List.mem_cons_self))); obtain ⟨d0, d1⟩ := hC.b2 (List.mem_cons_of_mem _ (List.mem_cons_of_mem _ (List.mem_cons_of_mem _ (List.mem_cons_of_mem _ List.mem_cons_self)))); clear hC; go_simp; first | done | with_reducible exact ⟨rfl, rfl⟩)
          clear hD
          with_reducible refine (HSPn.out _ _ (hC.at_ (List.mem_cons_of_mem _ (List.mem_cons_of_mem _ (List.mem_cons_of_mem _ (List.mem_cons_of_mem _ List.mem_cons_self)))))).mono ?_
          intro e wx h
          exact ao_sl h
        rintro _ ⟨ga14, gb14, gc14, gd14, rfl⟩
        have hfa14 := fun W => field_area ga14 os.dk.S.length gb14 gc14 os.dk.P.length gd14 os.text os.gen os.code W
        have hfb14 := fun W => field_area3 ga14 os.dk.S.length gb14 gc14 os.dk.P.length gd14 os.text os.gen os.code W
        try simp only [Act.put, List.setIfInBounds_toArray, List.set_cons_zero, List.set_cons_succ]
        repeat (first
          | (refine calm_skip (by rfl) ?_; try simp only [Act.put, List.setIfInBounds_toArray, List.set_cons_zero, List.set_cons_succ])
          | (refine calm_plain (by rfl) (by rfl) ?_; apply Exists.intro; refine ⟨fun wc hC hD => ?_, ?_⟩; (focus (clear hD; obtain ⟨p0, p1, p2, p3, p4⟩ := hC.b5 List.mem_cons_self; obtain ⟨q0, q1, q2, q3, q4⟩ := hC.b5 (List.mem_cons_of_mem _ List.mem_cons_self); obtain ⟨s0, s1, s2, s3, s4⟩ := hC.b5 (List.mem_cons_of_mem _ (List.mem_cons_of_mem _ List.mem_cons_self)); obtain ⟨u0, u1⟩ := hC.b2 (List.mem_cons_of_mem _ (List.mem_cons_of_mem _ (List.mem_cons_of_mem _ List.mem_cons_self))); obtain ⟨d0, d1⟩ := hC.b2 (List.mem_cons_of_mem _ (List.mem_cons_of_mem _ (List.mem_cons_of_mem _ (List.mem_cons_of_mem _ List.mem_cons_self)))); clear hC; go_simp; first | done | with_reducible rfl)); try simp only [Act.put, List.setIfInBounds_toArray, List.set_cons_zero, List.set_cons_succ]))
        refine calm_call _ _ (by rfl) (by rfl) ?_ ?_
        focus
          apply Exists.intro
          apply Exists.intro
          refine ⟨fun wc hC hD => ?_, fun wc hC hD => ?_⟩
          focus (clear hD; obtain ⟨p0, p1, p2, p3, p4⟩ := hC.b5 List.mem_cons_self; obtain ⟨q0, q1, q2, q3, q4⟩ := hC.b5 (List.mem_cons_of_mem _ List.mem_cons_self); obtain ⟨s0, s1, s2, s3, s4⟩ := hC.b5 (List.mem_cons_of_mem _ (List.mem_cons_of_mem _ List.mem_cons_self)); obtain ⟨u0, u1⟩ := hC.b2 (List.mem_cons_of_mem _ (List.mem_cons_of_mem _ (List.mem_cons_of_mem _ List.mem_cons_self))); obtain ⟨d0, d1⟩ := hC.b2 (List.mem_cons_of_mem _ (List.mem_cons_of_mem _ (List.mem_cons_of_mem _ (List.mem_cons_of_mem _ List.mem_cons_self)))); clear hC; go_simp; first | done | with_reducible exact ⟨rfl, rfl⟩)
          have ha := Deps.get hD 14 (by kernel_rfl)
          simp [upd, noF] at ha
          clear hD
          with_reducible refine (lw_disk _ _ _ _ os.dk _ (hC.at_ (List.mem_cons_of_mem _ List.mem_cons_self)) (ao_at ha) (by have := HBS.out.1; omega) (by have := HBS.out.2; omega)).mono ?_
          rintro e wx ⟨rfl, hb⟩
          exact ⟨_, rfl, hb, rfl, trivial⟩
        rintro _ rfl
        try simp only [Act.put, List.setIfInBounds_toArray, List.set_cons_zero, List.set_cons_succ]
        repeat (first
          | (refine calm_skip (by rfl) ?_; try simp only [Act.put, List.setIfInBounds_toArray, List.set_cons_zero, List.set_cons_succ])
          | (refine calm_plain (by rfl) (by rfl) ?_; apply Exists.intro; refine ⟨fun wc hC hD => ?_, ?_⟩; (focus (clear hD; obtain ⟨p0, p1, p2, p3, p4⟩ := hC.b5 List.mem_cons_self; obtain ⟨q0, q1, q2, q3, q4⟩ := hC.b5 (List.mem_cons_of_mem _ List.mem_cons_self); obtain ⟨s0, s1, s2, s3, s4⟩ := hC.b5 (List.mem_cons_of_mem _ (List.mem_cons_of_mem _ List.mem_cons_self)); obtain ⟨u0, u1⟩ := hC.b2 (List.mem_cons_of_mem _ (List.mem_cons_of_mem _ (List.mem_cons_of_mem _ List.mem_cons_self))); obtain ⟨d0, d1⟩ := hC.b2 (List.mem_cons_of_mem _ (List.mem_cons_of_mem _ (List.mem_cons_of_mem _ (List.mem_cons_of_mem _ List.mem_cons_self)))); clear hC; go_simp; first | done | with_reducible rfl)); try simp only [Act.put, List.setIfInBounds_toArray, List.set_cons_zero, List.set_cons_succ]))
        refine calm_end ?_
        intro w88 hL7 hF7
        clear hF7
        replace HF := Lib.hid hL7
        clear hL7

        have HRX := Lib.hid (HSR.out HXC.out)
        have HRY := Lib.hid (HYR.out HYC.out)
        have hgg := HYG.out HYC.out
        have HTO := Lib.hid (HTN.out HPC.out HXC.out)
        have HWH := Lib.hid (HWN.out HYC.out)
        have HBK := Lib.hid (HYA.out HYC.out)
        obtain ⟨p0, p1, p2, p3, p4⟩ := HF.out.b5 List.mem_cons_self
        obtain ⟨q0, q1, q2, q3, q4⟩ := HF.out.b5 (List.mem_cons_of_mem _ List.mem_cons_self)
        obtain ⟨s0, s1, s2, s3, s4⟩ := HF.out.b5 (List.mem_cons_of_mem _ (List.mem_cons_of_mem _ List.mem_cons_self))
        obtain ⟨u0, u1⟩ := HF.out.b2 (List.mem_cons_of_mem _ (List.mem_cons_of_mem _ (List.mem_cons_of_mem _ List.mem_cons_self)))
        obtain ⟨d0, d1⟩ := HF.out.b2 (List.mem_cons_of_mem _ (List.mem_cons_of_mem _ (List.mem_cons_of_mem _ (List.mem_cons_of_mem _ List.mem_cons_self))))
        go_wp2_with fail
        refine (impl_crash _ _ os.dk kl _ (HF.out.at_ (List.mem_cons_of_mem _ List.mem_cons_self)) (HF.out.kp List.mem_cons_self) (right_small HRX.out) HKK.out).mono ?_
        intro e w90 h
        obtain ⟨C1, e1', C2, e2', rfl, ho, hb⟩ := h.parts
        replace HF := Lib.hid ((HF.out.lift hb).read ho.at_)
        clear h ho hb
        clear p0 p1 p2 p3 p4 q0 q1 q2 q3 q4 s0 s1 s2 s3 s4 u0 u1 d0 d1
        go_wp2_with fail
        refine (HIR.out _ (crashDk os.dk kl) _ (HF.out.at_ List.mem_cons_self) (right_small (crash_good _ _ HRX.out HKS.out)) HF.out.bel).mono ?_
        intro e w91 h
        obtain ⟨E1, k1, E2, k2, rfl, ho, hb⟩ := h.parts
        replace HF := Lib.hid (((HF.out.lift hb).read ho.at_).box (.cells #[.slice E1 (readAo (crashDk os.dk kl)).dk.S.length k1, .slice E2 (readAo (crashDk os.dk kl)).dk.P.length k2, .string (readAo (crashDk os.dk kl)).text, .int .i64 (readAo (crashDk os.dk kl)).gen, .int .i64 (readAo (crashDk os.dk kl)).code] 31))
        clear h ho hb
        generalize readAo (crashDk os.dk kl) = oa at *
        obtain ⟨p0, p1, p2, p3, p4⟩ := HF.out.b5 (List.mem_cons_of_mem _ List.mem_cons_self)
        obtain ⟨q0, q1, q2, q3, q4⟩ := HF.out.b5 (List.mem_cons_of_mem _ (List.mem_cons_of_mem _ List.mem_cons_self))
        obtain ⟨s0, s1, s2, s3, s4⟩ := HF.out.b5 (List.mem_cons_of_mem _ (List.mem_cons_of_mem _ (List.mem_cons_of_mem _ List.mem_cons_self)))
        obtain ⟨u0, u1⟩ := HF.out.b2 (List.mem_cons_of_mem _ (List.mem_cons_of_mem _ (List.mem_cons_of_mem _ (List.mem_cons_of_mem _ List.mem_cons_self))))
        obtain ⟨d0, d1⟩ := HF.out.b2 (List.mem_cons_of_mem _ (List.mem_cons_of_mem _ (List.mem_cons_of_mem _ (List.mem_cons_of_mem _ (List.mem_cons_of_mem _ List.mem_cons_self)))))
        go_wp2_with fail
        refine (impl_crash _ _ oy.dk kl _ (HF.out.at_ (List.mem_cons_of_mem _ (List.mem_cons_of_mem _ List.mem_cons_self))) (HF.out.kp List.mem_cons_self) (right_small HRY.out) HKK.out).mono ?_
        intro e w92 h
        rw [HWH.out] at h
        obtain ⟨C3, e3', C4, e4', rfl, ho, hb⟩ := h.parts
        replace HF := Lib.hid ((HF.out.lift hb).read ho.at_)
        clear h ho hb
        clear p0 p1 p2 p3 p4 q0 q1 q2 q3 q4 s0 s1 s2 s3 s4 u0 u1 d0 d1
        go_wp2_with fail
        refine (HIR.out _ oy.dk _ (HF.out.at_ List.mem_cons_self) (right_small HRY.out) HF.out.bel).mono ?_
        intro e w93 h
        rw [HBK.out] at h
        have h' := h.parts
        dsimp only at h'
        obtain ⟨G1, m1, G2, m2, rfl, ho, hb⟩ := h'
        replace HF := Lib.hid ((HF.out.lift hb).box (.cells #[.slice G1 oy.dk.S.length m1, .slice G2 oy.dk.P.length m2, .string t, .int .i64 (ox.gen + 1), .int .i64 0] 31))
        clear h ho hb
        obtain ⟨p0, p1, p2, p3, p4⟩ := HF.out.b5 (List.mem_cons_of_mem _ (List.mem_cons_of_mem _ List.mem_cons_self))
        obtain ⟨q0, q1, q2, q3, q4⟩ := HF.out.b5 (List.mem_cons_of_mem _ (List.mem_cons_of_mem _ (List.mem_cons_of_mem _ List.mem_cons_self)))
        obtain ⟨s0, s1, s2, s3, s4⟩ := HF.out.b5 (List.mem_cons_of_mem _ (List.mem_cons_of_mem _ (List.mem_cons_of_mem _ (List.mem_cons_of_mem _ List.mem_cons_self))))
        obtain ⟨u0, u1⟩ := HF.out.b2 (List.mem_cons_of_mem _ (List.mem_cons_of_mem _ (List.mem_cons_of_mem _ (List.mem_cons_of_mem _ (List.mem_cons_of_mem _ List.mem_cons_self)))))
        obtain ⟨d0, d1⟩ := HF.out.b2 (List.mem_cons_of_mem _ (List.mem_cons_of_mem _ (List.mem_cons_of_mem _ (List.mem_cons_of_mem _ (List.mem_cons_of_mem _ (List.mem_cons_of_mem _ List.mem_cons_self))))))
        obtain ⟨a0', a1', a2', a3', a4'⟩ := HF.out.b5 (List.mem_cons_of_mem _ List.mem_cons_self)
        obtain ⟨b0', b1', b2', b3', b4'⟩ := HF.out.b5 List.mem_cons_self
        have hw : IntKind.i64.wrap (ox.gen + 1) = ox.gen + 1 := IntWalk.i64_in _ (by omega)
        obtain ⟨hac, hao⟩ := HTO.out
        have hac1 : (oa.code != 0) = false := by simp [hac]
        have htt := beq_yes t
        have htt' : (t.toList != t.toList) = false := by simp
        rcases hao with ⟨hao1, hao2⟩ | ⟨hao1, hao2⟩
        · have hq1 : (oa.text.toList == ox.text.toList) = true := by rw [hao1]; exact beq_yes _
          have hq2 : (oa.gen == ox.gen) = true := by simp [hao2]
          go_wp2
          go_ret
          exact ⟨rfl, HF.out.bel⟩
        · have hq3 : (oa.text.toList == t.toList) = true := by rw [hao1]; exact beq_yes _
          have hq4 : (oa.gen == ox.gen + 1) = true := by simp [hao2]
          have hq2 : (oa.gen == ox.gen) = false := by simp [hao2]; omega
          cases hq1 : (oa.text.toList == ox.text.toList)
          all_goals
            go_wp2
            all_goals
              go_ret
              exact ⟨rfl, HF.out.bel⟩

      · have hp1 : (0 : Int) < (d.P.length : Int) := by have := List.length_pos_iff.2 hpc; omega
        clear hpc
        go_upto_region 8 with fail
        refine wp_region_calm_fd [(5, AoSl os, AoAt os), (14, AoSl os, AoAt os), (16, (fun u => u = .bool true), (fun _ _ => True))] (by kernel_rfl) (by kernel_rfl) (by
          intro q hq v
          simp only [List.mem_cons, List.not_mem_nil, or_false] at hq
          rcases hq with rfl | rfl | rfl
          · exact AoAt.mono _ v
          · exact AoAt.mono _ v
          · exact mono_true) HF.out ?_
        repeat (first
          | (refine calm_skip (by rfl) ?_; try simp only [Act.put, List.setIfInBounds_toArray, List.set_cons_zero, List.set_cons_succ])
          | (refine calm_plain (by rfl) (by rfl) ?_; apply Exists.intro; refine ⟨fun wc hC hD => ?_, ?_⟩; (focus (clear hD; obtain ⟨p0, p1, p2, p3, p4⟩ := hC.b5 List.mem_cons_self; obtain ⟨q0, q1, q2, q3, q4⟩ := hC.b5 (List.mem_cons_of_mem _ List.mem_cons_self); obtain ⟨s0, s1, s2, s3, s4⟩ := hC.b5 (List.mem_cons_of_mem _ (List.mem_cons_of_mem _ List.mem_cons_self)); obtain ⟨u0, u1⟩ := hC.b2 (List.mem_cons_of_mem _ (List.mem_cons_of_mem _ (List.mem_cons_of_mem _ List.mem_cons_self))); obtain ⟨d0, d1⟩ := hC.b2 (List.mem_cons_of_mem _ (List.mem_cons_of_mem _ (List.mem_cons_of_mem _ (List.mem_cons_of_mem _ List.mem_cons_self)))); clear hC; go_simp; first | done | with_reducible rfl)); try simp only [Act.put, List.setIfInBounds_toArray, List.set_cons_zero, List.set_cons_succ]))
        refine calm_call _ _ (by rfl) (by rfl) ?_ ?_
        focus
          apply Exists.intro
          apply Exists.intro
          refine ⟨fun wc hC hD => ?_, fun wc hC hD => ?_⟩
          focus (clear hD; obtain ⟨p0, p1, p2, p3, p4⟩ := hC.b5 List.mem_cons_self; obtain ⟨q0, q1, q2, q3, q4⟩ := hC.b5 (List.mem_cons_of_mem _ List.mem_cons_self); obtain ⟨s0, s1, s2, s3, s4⟩ := hC.b5 (List.mem_cons_of_mem _ (List.mem_cons_of_mem _ List.mem_cons_self)); obtain ⟨u0, u1⟩ := hC.b2 (List.mem_cons_of_mem _ (List.mem_cons_of_mem _ (List.mem_cons_of_mem _ List.mem_cons_self))); obtain ⟨d0, d1⟩ := hC.b2 (List.mem_cons_of_mem _ (List.mem_cons_of_mem _ (List.mem_cons_of_mem _ (List.mem_cons_of_mem _ List.mem_cons_self)))); clear hC; go_simp; first | done | with_reducible exact ⟨rfl, rfl⟩)
          clear hD
          with_reducible refine (HSPn.out _ _ (hC.at_ (List.mem_cons_of_mem _ (List.mem_cons_of_mem _ (List.mem_cons_of_mem _ (List.mem_cons_of_mem _ List.mem_cons_self)))))).mono ?_
          intro e wx h
          exact ao_sl h
        rintro _ ⟨ga5, gb5, gc5, gd5, rfl⟩
        have hfa5 := fun W => field_area ga5 os.dk.S.length gb5 gc5 os.dk.P.length gd5 os.text os.gen os.code W
        have hfb5 := fun W => field_area3 ga5 os.dk.S.length gb5 gc5 os.dk.P.length gd5 os.text os.gen os.code W
        try simp only [Act.put, List.setIfInBounds_toArray, List.set_cons_zero, List.set_cons_succ]
        repeat (first
          | (refine calm_skip (by rfl) ?_; try simp only [Act.put, List.setIfInBounds_toArray, List.set_cons_zero, List.set_cons_succ])
          | (refine calm_plain (by rfl) (by rfl) ?_; apply Exists.intro; refine ⟨fun wc hC hD => ?_, ?_⟩; (focus (clear hD; obtain ⟨p0, p1, p2, p3, p4⟩ := hC.b5 List.mem_cons_self; obtain ⟨q0, q1, q2, q3, q4⟩ := hC.b5 (List.mem_cons_of_mem _ List.mem_cons_self); obtain ⟨s0, s1, s2, s3, s4⟩ := hC.b5 (List.mem_cons_of_mem _ (List.mem_cons_of_mem _ List.mem_cons_self)); obtain ⟨u0, u1⟩ := hC.b2 (List.mem_cons_of_mem _ (List.mem_cons_of_mem _ (List.mem_cons_of_mem _ List.mem_cons_self))); obtain ⟨d0, d1⟩ := hC.b2 (List.mem_cons_of_mem _ (List.mem_cons_of_mem _ (List.mem_cons_of_mem _ (List.mem_cons_of_mem _ List.mem_cons_self)))); clear hC; go_simp; first | done | with_reducible rfl)); try simp only [Act.put, List.setIfInBounds_toArray, List.set_cons_zero, List.set_cons_succ]))
        refine calm_call _ _ (by rfl) (by rfl) ?_ ?_
        focus
          apply Exists.intro
          apply Exists.intro
          refine ⟨fun wc hC hD => ?_, fun wc hC hD => ?_⟩
          focus (clear hD; obtain ⟨p0, p1, p2, p3, p4⟩ := hC.b5 List.mem_cons_self; obtain ⟨q0, q1, q2, q3, q4⟩ := hC.b5 (List.mem_cons_of_mem _ List.mem_cons_self); obtain ⟨s0, s1, s2, s3, s4⟩ := hC.b5 (List.mem_cons_of_mem _ (List.mem_cons_of_mem _ List.mem_cons_self)); obtain ⟨u0, u1⟩ := hC.b2 (List.mem_cons_of_mem _ (List.mem_cons_of_mem _ (List.mem_cons_of_mem _ List.mem_cons_self))); obtain ⟨d0, d1⟩ := hC.b2 (List.mem_cons_of_mem _ (List.mem_cons_of_mem _ (List.mem_cons_of_mem _ (List.mem_cons_of_mem _ List.mem_cons_self)))); clear hC; go_simp; first | done | with_reducible exact ⟨rfl, rfl⟩)
          clear hD
          with_reducible refine (HSPn.out _ _ (hC.at_ (List.mem_cons_of_mem _ (List.mem_cons_of_mem _ (List.mem_cons_of_mem _ (List.mem_cons_of_mem _ List.mem_cons_self)))))).mono ?_
          intro e wx h
          exact ao_sl h
        rintro _ ⟨ga14, gb14, gc14, gd14, rfl⟩
        have hfa14 := fun W => field_area ga14 os.dk.S.length gb14 gc14 os.dk.P.length gd14 os.text os.gen os.code W
        have hfb14 := fun W => field_area3 ga14 os.dk.S.length gb14 gc14 os.dk.P.length gd14 os.text os.gen os.code W
        try simp only [Act.put, List.setIfInBounds_toArray, List.set_cons_zero, List.set_cons_succ]
        repeat (first
          | (refine calm_skip (by rfl) ?_; try simp only [Act.put, List.setIfInBounds_toArray, List.set_cons_zero, List.set_cons_succ])
          | (refine calm_plain (by rfl) (by rfl) ?_; apply Exists.intro; refine ⟨fun wc hC hD => ?_, ?_⟩; (focus (clear hD; obtain ⟨p0, p1, p2, p3, p4⟩ := hC.b5 List.mem_cons_self; obtain ⟨q0, q1, q2, q3, q4⟩ := hC.b5 (List.mem_cons_of_mem _ List.mem_cons_self); obtain ⟨s0, s1, s2, s3, s4⟩ := hC.b5 (List.mem_cons_of_mem _ (List.mem_cons_of_mem _ List.mem_cons_self)); obtain ⟨u0, u1⟩ := hC.b2 (List.mem_cons_of_mem _ (List.mem_cons_of_mem _ (List.mem_cons_of_mem _ List.mem_cons_self))); obtain ⟨d0, d1⟩ := hC.b2 (List.mem_cons_of_mem _ (List.mem_cons_of_mem _ (List.mem_cons_of_mem _ (List.mem_cons_of_mem _ List.mem_cons_self)))); clear hC; go_simp; first | done | with_reducible rfl)); try simp only [Act.put, List.setIfInBounds_toArray, List.set_cons_zero, List.set_cons_succ]))
        refine calm_call _ _ (by rfl) (by rfl) ?_ ?_
        focus
          apply Exists.intro
          apply Exists.intro
          refine ⟨fun wc hC hD => ?_, fun wc hC hD => ?_⟩
          focus (clear hD; obtain ⟨p0, p1, p2, p3, p4⟩ := hC.b5 List.mem_cons_self; obtain ⟨q0, q1, q2, q3, q4⟩ := hC.b5 (List.mem_cons_of_mem _ List.mem_cons_self); obtain ⟨s0, s1, s2, s3, s4⟩ := hC.b5 (List.mem_cons_of_mem _ (List.mem_cons_of_mem _ List.mem_cons_self)); obtain ⟨u0, u1⟩ := hC.b2 (List.mem_cons_of_mem _ (List.mem_cons_of_mem _ (List.mem_cons_of_mem _ List.mem_cons_self))); obtain ⟨d0, d1⟩ := hC.b2 (List.mem_cons_of_mem _ (List.mem_cons_of_mem _ (List.mem_cons_of_mem _ (List.mem_cons_of_mem _ List.mem_cons_self)))); clear hC; go_simp; first | done | with_reducible exact ⟨rfl, rfl⟩)
          have ha := Deps.get hD 14 (by kernel_rfl)
          simp [upd, noF] at ha
          clear hD
          with_reducible refine (lw_disk _ _ _ _ os.dk _ (hC.at_ (List.mem_cons_of_mem _ List.mem_cons_self)) (ao_at ha) (by have := HBS.out.1; omega) (by have := HBS.out.2; omega)).mono ?_
          rintro e wx ⟨rfl, hb⟩
          exact ⟨_, rfl, hb, rfl, trivial⟩
        rintro _ rfl
        try simp only [Act.put, List.setIfInBounds_toArray, List.set_cons_zero, List.set_cons_succ]
        repeat (first
          | (refine calm_skip (by rfl) ?_; try simp only [Act.put, List.setIfInBounds_toArray, List.set_cons_zero, List.set_cons_succ])
          | (refine calm_plain (by rfl) (by rfl) ?_; apply Exists.intro; refine ⟨fun wc hC hD => ?_, ?_⟩; (focus (clear hD; obtain ⟨p0, p1, p2, p3, p4⟩ := hC.b5 List.mem_cons_self; obtain ⟨q0, q1, q2, q3, q4⟩ := hC.b5 (List.mem_cons_of_mem _ List.mem_cons_self); obtain ⟨s0, s1, s2, s3, s4⟩ := hC.b5 (List.mem_cons_of_mem _ (List.mem_cons_of_mem _ List.mem_cons_self)); obtain ⟨u0, u1⟩ := hC.b2 (List.mem_cons_of_mem _ (List.mem_cons_of_mem _ (List.mem_cons_of_mem _ List.mem_cons_self))); obtain ⟨d0, d1⟩ := hC.b2 (List.mem_cons_of_mem _ (List.mem_cons_of_mem _ (List.mem_cons_of_mem _ (List.mem_cons_of_mem _ List.mem_cons_self)))); clear hC; go_simp; first | done | with_reducible rfl)); try simp only [Act.put, List.setIfInBounds_toArray, List.set_cons_zero, List.set_cons_succ]))
        refine calm_end ?_
        intro w88 hL7 hF7
        clear hF7
        replace HF := Lib.hid hL7
        clear hL7

        go_upto_region 9 with fail
        refine wp_region_calm_fd [(5, AoSl os, AoAt os), (14, AoSl os, AoAt os), (16, (fun u => u = .bool true), (fun _ _ => True)), (23, AoSl oy, AoAt oy)] (by kernel_rfl) (by kernel_rfl) (by
          intro q hq v
          simp only [List.mem_cons, List.not_mem_nil, or_false] at hq
          rcases hq with rfl | rfl | rfl | rfl
          · exact AoAt.mono _ v
          · exact AoAt.mono _ v
          · exact mono_true
          · exact AoAt.mono _ v) HF.out ?_
        repeat (first
          | (refine calm_skip (by rfl) ?_; try simp only [Act.put, List.setIfInBounds_toArray, List.set_cons_zero, List.set_cons_succ])
          | (refine calm_plain (by rfl) (by rfl) ?_; apply Exists.intro; refine ⟨fun wc hC hD => ?_, ?_⟩; (focus (clear hD; obtain ⟨p0, p1, p2, p3, p4⟩ := hC.b5 List.mem_cons_self; obtain ⟨q0, q1, q2, q3, q4⟩ := hC.b5 (List.mem_cons_of_mem _ List.mem_cons_self); obtain ⟨s0, s1, s2, s3, s4⟩ := hC.b5 (List.mem_cons_of_mem _ (List.mem_cons_of_mem _ List.mem_cons_self)); obtain ⟨u0, u1⟩ := hC.b2 (List.mem_cons_of_mem _ (List.mem_cons_of_mem _ (List.mem_cons_of_mem _ List.mem_cons_self))); obtain ⟨d0, d1⟩ := hC.b2 (List.mem_cons_of_mem _ (List.mem_cons_of_mem _ (List.mem_cons_of_mem _ (List.mem_cons_of_mem _ List.mem_cons_self)))); clear hC; go_simp; first | done | with_reducible rfl)); try simp only [Act.put, List.setIfInBounds_toArray, List.set_cons_zero, List.set_cons_succ]))
        refine calm_call _ _ (by rfl) (by rfl) ?_ ?_
        focus
          apply Exists.intro
          apply Exists.intro
          refine ⟨fun wc hC hD => ?_, fun wc hC hD => ?_⟩
          focus (clear hD; obtain ⟨p0, p1, p2, p3, p4⟩ := hC.b5 List.mem_cons_self; obtain ⟨q0, q1, q2, q3, q4⟩ := hC.b5 (List.mem_cons_of_mem _ List.mem_cons_self); obtain ⟨s0, s1, s2, s3, s4⟩ := hC.b5 (List.mem_cons_of_mem _ (List.mem_cons_of_mem _ List.mem_cons_self)); obtain ⟨u0, u1⟩ := hC.b2 (List.mem_cons_of_mem _ (List.mem_cons_of_mem _ (List.mem_cons_of_mem _ List.mem_cons_self))); obtain ⟨d0, d1⟩ := hC.b2 (List.mem_cons_of_mem _ (List.mem_cons_of_mem _ (List.mem_cons_of_mem _ (List.mem_cons_of_mem _ List.mem_cons_self)))); clear hC; go_simp; first | done | with_reducible exact ⟨rfl, rfl⟩)
          clear hD
          with_reducible refine (HSPn.out _ _ (hC.at_ (List.mem_cons_of_mem _ (List.mem_cons_of_mem _ (List.mem_cons_of_mem _ (List.mem_cons_of_mem _ List.mem_cons_self)))))).mono ?_
          intro e wx h
          exact ao_sl h
        rintro _ ⟨ga5, gb5, gc5, gd5, rfl⟩
        have hfa5 := fun W => field_area ga5 os.dk.S.length gb5 gc5 os.dk.P.length gd5 os.text os.gen os.code W
        have hfb5 := fun W => field_area3 ga5 os.dk.S.length gb5 gc5 os.dk.P.length gd5 os.text os.gen os.code W
        try simp only [Act.put, List.setIfInBounds_toArray, List.set_cons_zero, List.set_cons_succ]
        repeat (first
          | (refine calm_skip (by rfl) ?_; try simp only [Act.put, List.setIfInBounds_toArray, List.set_cons_zero, List.set_cons_succ])
          | (refine calm_plain (by rfl) (by rfl) ?_; apply Exists.intro; refine ⟨fun wc hC hD => ?_, ?_⟩; (focus (clear hD; obtain ⟨p0, p1, p2, p3, p4⟩ := hC.b5 List.mem_cons_self; obtain ⟨q0, q1, q2, q3, q4⟩ := hC.b5 (List.mem_cons_of_mem _ List.mem_cons_self); obtain ⟨s0, s1, s2, s3, s4⟩ := hC.b5 (List.mem_cons_of_mem _ (List.mem_cons_of_mem _ List.mem_cons_self)); obtain ⟨u0, u1⟩ := hC.b2 (List.mem_cons_of_mem _ (List.mem_cons_of_mem _ (List.mem_cons_of_mem _ List.mem_cons_self))); obtain ⟨d0, d1⟩ := hC.b2 (List.mem_cons_of_mem _ (List.mem_cons_of_mem _ (List.mem_cons_of_mem _ (List.mem_cons_of_mem _ List.mem_cons_self)))); clear hC; go_simp; first | done | with_reducible rfl)); try simp only [Act.put, List.setIfInBounds_toArray, List.set_cons_zero, List.set_cons_succ]))
        refine calm_call _ _ (by rfl) (by rfl) ?_ ?_
        focus
          apply Exists.intro
          apply Exists.intro
          refine ⟨fun wc hC hD => ?_, fun wc hC hD => ?_⟩
          focus (clear hD; obtain ⟨p0, p1, p2, p3, p4⟩ := hC.b5 List.mem_cons_self; obtain ⟨q0, q1, q2, q3, q4⟩ := hC.b5 (List.mem_cons_of_mem _ List.mem_cons_self); obtain ⟨s0, s1, s2, s3, s4⟩ := hC.b5 (List.mem_cons_of_mem _ (List.mem_cons_of_mem _ List.mem_cons_self)); obtain ⟨u0, u1⟩ := hC.b2 (List.mem_cons_of_mem _ (List.mem_cons_of_mem _ (List.mem_cons_of_mem _ List.mem_cons_self))); obtain ⟨d0, d1⟩ := hC.b2 (List.mem_cons_of_mem _ (List.mem_cons_of_mem _ (List.mem_cons_of_mem _ (List.mem_cons_of_mem _ List.mem_cons_self)))); clear hC; go_simp; first | done | with_reducible exact ⟨rfl, rfl⟩)
          clear hD
          with_reducible refine (HSPn.out _ _ (hC.at_ (List.mem_cons_of_mem _ (List.mem_cons_of_mem _ (List.mem_cons_of_mem _ (List.mem_cons_of_mem _ List.mem_cons_self)))))).mono ?_
          intro e wx h
          exact ao_sl h
        rintro _ ⟨ga14, gb14, gc14, gd14, rfl⟩
        have hfa14 := fun W => field_area ga14 os.dk.S.length gb14 gc14 os.dk.P.length gd14 os.text os.gen os.code W
        have hfb14 := fun W => field_area3 ga14 os.dk.S.length gb14 gc14 os.dk.P.length gd14 os.text os.gen os.code W
        try simp only [Act.put, List.setIfInBounds_toArray, List.set_cons_zero, List.set_cons_succ]
        repeat (first
          | (refine calm_skip (by rfl) ?_; try simp only [Act.put, List.setIfInBounds_toArray, List.set_cons_zero, List.set_cons_succ])
          | (refine calm_plain (by rfl) (by rfl) ?_; apply Exists.intro; refine ⟨fun wc hC hD => ?_, ?_⟩; (focus (clear hD; obtain ⟨p0, p1, p2, p3, p4⟩ := hC.b5 List.mem_cons_self; obtain ⟨q0, q1, q2, q3, q4⟩ := hC.b5 (List.mem_cons_of_mem _ List.mem_cons_self); obtain ⟨s0, s1, s2, s3, s4⟩ := hC.b5 (List.mem_cons_of_mem _ (List.mem_cons_of_mem _ List.mem_cons_self)); obtain ⟨u0, u1⟩ := hC.b2 (List.mem_cons_of_mem _ (List.mem_cons_of_mem _ (List.mem_cons_of_mem _ List.mem_cons_self))); obtain ⟨d0, d1⟩ := hC.b2 (List.mem_cons_of_mem _ (List.mem_cons_of_mem _ (List.mem_cons_of_mem _ (List.mem_cons_of_mem _ List.mem_cons_self)))); clear hC; go_simp; first | done | with_reducible rfl)); try simp only [Act.put, List.setIfInBounds_toArray, List.set_cons_zero, List.set_cons_succ]))
        refine calm_call _ _ (by rfl) (by rfl) ?_ ?_
        focus
          apply Exists.intro
          apply Exists.intro
          refine ⟨fun wc hC hD => ?_, fun wc hC hD => ?_⟩
          focus (clear hD; obtain ⟨p0, p1, p2, p3, p4⟩ := hC.b5 List.mem_cons_self; obtain ⟨q0, q1, q2, q3, q4⟩ := hC.b5 (List.mem_cons_of_mem _ List.mem_cons_self); obtain ⟨s0, s1, s2, s3, s4⟩ := hC.b5 (List.mem_cons_of_mem _ (List.mem_cons_of_mem _ List.mem_cons_self)); obtain ⟨u0, u1⟩ := hC.b2 (List.mem_cons_of_mem _ (List.mem_cons_of_mem _ (List.mem_cons_of_mem _ List.mem_cons_self))); obtain ⟨d0, d1⟩ := hC.b2 (List.mem_cons_of_mem _ (List.mem_cons_of_mem _ (List.mem_cons_of_mem _ (List.mem_cons_of_mem _ List.mem_cons_self)))); clear hC; go_simp; first | done | with_reducible exact ⟨rfl, rfl⟩)
          have ha := Deps.get hD 14 (by kernel_rfl)
          simp [upd, noF] at ha
          clear hD
          with_reducible refine (lw_disk _ _ _ _ os.dk _ (hC.at_ (List.mem_cons_of_mem _ List.mem_cons_self)) (ao_at ha) (by have := HBS.out.1; omega) (by have := HBS.out.2; omega)).mono ?_
          rintro e wx ⟨rfl, hb⟩
          exact ⟨_, rfl, hb, rfl, trivial⟩
        rintro _ rfl
        try simp only [Act.put, List.setIfInBounds_toArray, List.set_cons_zero, List.set_cons_succ]
        repeat (first
          | (refine calm_skip (by rfl) ?_; try simp only [Act.put, List.setIfInBounds_toArray, List.set_cons_zero, List.set_cons_succ])
          | (refine calm_plain (by rfl) (by rfl) ?_; apply Exists.intro; refine ⟨fun wc hC hD => ?_, ?_⟩; (focus (clear hD; obtain ⟨p0, p1, p2, p3, p4⟩ := hC.b5 List.mem_cons_self; obtain ⟨q0, q1, q2, q3, q4⟩ := hC.b5 (List.mem_cons_of_mem _ List.mem_cons_self); obtain ⟨s0, s1, s2, s3, s4⟩ := hC.b5 (List.mem_cons_of_mem _ (List.mem_cons_of_mem _ List.mem_cons_self)); obtain ⟨u0, u1⟩ := hC.b2 (List.mem_cons_of_mem _ (List.mem_cons_of_mem _ (List.mem_cons_of_mem _ List.mem_cons_self))); obtain ⟨d0, d1⟩ := hC.b2 (List.mem_cons_of_mem _ (List.mem_cons_of_mem _ (List.mem_cons_of_mem _ (List.mem_cons_of_mem _ List.mem_cons_self)))); clear hC; go_simp; first | done | with_reducible rfl)); try simp only [Act.put, List.setIfInBounds_toArray, List.set_cons_zero, List.set_cons_succ]))
        refine calm_call _ _ (by rfl) (by rfl) ?_ ?_
        focus
          apply Exists.intro
          apply Exists.intro
          refine ⟨fun wc hC hD => ?_, fun wc hC hD => ?_⟩
          focus (clear hD; obtain ⟨p0, p1, p2, p3, p4⟩ := hC.b5 List.mem_cons_self; obtain ⟨q0, q1, q2, q3, q4⟩ := hC.b5 (List.mem_cons_of_mem _ List.mem_cons_self); obtain ⟨s0, s1, s2, s3, s4⟩ := hC.b5 (List.mem_cons_of_mem _ (List.mem_cons_of_mem _ List.mem_cons_self)); obtain ⟨u0, u1⟩ := hC.b2 (List.mem_cons_of_mem _ (List.mem_cons_of_mem _ (List.mem_cons_of_mem _ List.mem_cons_self))); obtain ⟨d0, d1⟩ := hC.b2 (List.mem_cons_of_mem _ (List.mem_cons_of_mem _ (List.mem_cons_of_mem _ (List.mem_cons_of_mem _ List.mem_cons_self)))); clear hC; go_simp; first | done | with_reducible exact ⟨rfl, rfl⟩)
          clear hD
          with_reducible refine (HSP.out _ _ (hC.at_ (List.mem_cons_of_mem _ (List.mem_cons_of_mem _ (List.mem_cons_of_mem _ (List.mem_cons_of_mem _ List.mem_cons_self)))))).mono ?_
          intro e wx h
          exact ao_sl h
        rintro _ ⟨ga23, gb23, gc23, gd23, rfl⟩
        have hfa23 := fun W => field_area ga23 oy.dk.S.length gb23 gc23 oy.dk.P.length gd23 oy.text oy.gen oy.code W
        have hfb23 := fun W => field_area3 ga23 oy.dk.S.length gb23 gc23 oy.dk.P.length gd23 oy.text oy.gen oy.code W
        try simp only [Act.put, List.setIfInBounds_toArray, List.set_cons_zero, List.set_cons_succ]
        repeat (first
          | (refine calm_skip (by rfl) ?_; try simp only [Act.put, List.setIfInBounds_toArray, List.set_cons_zero, List.set_cons_succ])
          | (refine calm_plain (by rfl) (by rfl) ?_; apply Exists.intro; refine ⟨fun wc hC hD => ?_, ?_⟩; (focus (clear hD; obtain ⟨p0, p1, p2, p3, p4⟩ := hC.b5 List.mem_cons_self; obtain ⟨q0, q1, q2, q3, q4⟩ := hC.b5 (List.mem_cons_of_mem _ List.mem_cons_self); obtain ⟨s0, s1, s2, s3, s4⟩ := hC.b5 (List.mem_cons_of_mem _ (List.mem_cons_of_mem _ List.mem_cons_self)); obtain ⟨u0, u1⟩ := hC.b2 (List.mem_cons_of_mem _ (List.mem_cons_of_mem _ (List.mem_cons_of_mem _ List.mem_cons_self))); obtain ⟨d0, d1⟩ := hC.b2 (List.mem_cons_of_mem _ (List.mem_cons_of_mem _ (List.mem_cons_of_mem _ (List.mem_cons_of_mem _ List.mem_cons_self)))); clear hC; go_simp; first | done | with_reducible rfl)); try simp only [Act.put, List.setIfInBounds_toArray, List.set_cons_zero, List.set_cons_succ]))
        refine calm_end ?_
        intro w89 hL7 hF7
        clear hF7
        replace HF := Lib.hid hL7
        clear hL7
        go_wp2
        go_ret
        exact ⟨rfl, HF.out.bel⟩

    · have hy1 : (oy.code != 0) = true := by simp [hyc]
      clear hyc
      go_upto_region 8 with fail
      refine wp_region_calm_fd [(5, AoSl os, AoAt os), (14, AoSl os, AoAt os), (16, (fun u => u = .bool true), (fun _ _ => True))] (by kernel_rfl) (by kernel_rfl) (by
        intro q hq v
        simp only [List.mem_cons, List.not_mem_nil, or_false] at hq
        rcases hq with rfl | rfl | rfl
        · exact AoAt.mono _ v
        · exact AoAt.mono _ v
        · exact mono_true) HF.out ?_
      repeat (first
        | (refine calm_skip (by rfl) ?_; try simp only [Act.put, List.setIfInBounds_toArray, List.set_cons_zero, List.set_cons_succ])
        | (refine calm_plain (by rfl) (by rfl) ?_; apply Exists.intro; refine ⟨fun wc hC hD => ?_, ?_⟩; (focus (clear hD; obtain ⟨p0, p1, p2, p3, p4⟩ := hC.b5 List.mem_cons_self; obtain ⟨q0, q1, q2, q3, q4⟩ := hC.b5 (List.mem_cons_of_mem _ List.mem_cons_self); obtain ⟨s0, s1, s2, s3, s4⟩ := hC.b5 (List.mem_cons_of_mem _ (List.mem_cons_of_mem _ List.mem_cons_self)); obtain ⟨u0, u1⟩ := hC.b2 (List.mem_cons_of_mem _ (List.mem_cons_of_mem _ (List.mem_cons_of_mem _ List.mem_cons_self))); obtain ⟨d0, d1⟩ := hC.b2 (List.mem_cons_of_mem _ (List.mem_cons_of_mem _ (List.mem_cons_of_mem _ (List.mem_cons_of_mem _ List.mem_cons_self)))); clear hC; go_simp; first | done | with_reducible rfl)); try simp only [Act.put, List.setIfInBounds_toArray, List.set_cons_zero, List.set_cons_succ]))
      refine calm_call _ _ (by rfl) (by rfl) ?_ ?_
      focus
        apply Exists.intro
        apply Exists.intro
        refine ⟨fun wc hC hD => ?_, fun wc hC hD => ?_⟩
        focus (clear hD; obtain ⟨p0, p1, p2, p3, p4⟩ := hC.b5 List.mem_cons_self; obtain ⟨q0, q1, q2, q3, q4⟩ := hC.b5 (List.mem_cons_of_mem _ List.mem_cons_self); obtain ⟨s0, s1, s2, s3, s4⟩ := hC.b5 (List.mem_cons_of_mem _ (List.mem_cons_of_mem _ List.mem_cons_self)); obtain ⟨u0, u1⟩ := hC.b2 (List.mem_cons_of_mem _ (List.mem_cons_of_mem _ (List.mem_cons_of_mem _ List.mem_cons_self))); obtain ⟨d0, d1⟩ := hC.b2 (List.mem_cons_of_mem _ (List.mem_cons_of_mem _ (List.mem_cons_of_mem _ (List.mem_cons_of_mem _ List.mem_cons_self)))); clear hC; go_simp; first | done | with_reducible exact ⟨rfl, rfl⟩)
        clear hD
        with_reducible refine (HSPn.out _ _ (hC.at_ (List.mem_cons_of_mem _ (List.mem_cons_of_mem _ (List.mem_cons_of_mem _ (List.mem_cons_of_mem _ List.mem_cons_self)))))).mono ?_
        intro e wx h
        exact ao_sl h
      rintro _ ⟨ga5, gb5, gc5, gd5, rfl⟩
      have hfa5 := fun W => field_area ga5 os.dk.S.length gb5 gc5 os.dk.P.length gd5 os.text os.gen os.code W
      have hfb5 := fun W => field_area3 ga5 os.dk.S.length gb5 gc5 os.dk.P.length gd5 os.text os.gen os.code W
      try simp only [Act.put, List.setIfInBounds_toArray, List.set_cons_zero, List.set_cons_succ]
      repeat (first
        | (refine calm_skip (by rfl) ?_; try simp only [Act.put, List.setIfInBounds_toArray, List.set_cons_zero, List.set_cons_succ])
        | (refine calm_plain (by rfl) (by rfl) ?_; apply Exists.intro; refine ⟨fun wc hC hD => ?_, ?_⟩; (focus (clear hD; obtain ⟨p0, p1, p2, p3, p4⟩ := hC.b5 List.mem_cons_self; obtain ⟨q0, q1, q2, q3, q4⟩ := hC.b5 (List.mem_cons_of_mem _ List.mem_cons_self); obtain ⟨s0, s1, s2, s3, s4⟩ := hC.b5 (List.mem_cons_of_mem _ (List.mem_cons_of_mem _ List.mem_cons_self)); obtain ⟨u0, u1⟩ := hC.b2 (List.mem_cons_of_mem _ (List.mem_cons_of_mem _ (List.mem_cons_of_mem _ List.mem_cons_self))); obtain ⟨d0, d1⟩ := hC.b2 (List.mem_cons_of_mem _ (List.mem_cons_of_mem _ (List.mem_cons_of_mem _ (List.mem_cons_of_mem _ List.mem_cons_self)))); clear hC; go_simp; first | done | with_reducible rfl)); try simp only [Act.put, List.setIfInBounds_toArray, List.set_cons_zero, List.set_cons_succ]))
      refine calm_call _ _ (by rfl) (by rfl) ?_ ?_
      focus
        apply Exists.intro
        apply Exists.intro
        refine ⟨fun wc hC hD => ?_, fun wc hC hD => ?_⟩
        focus (clear hD; obtain ⟨p0, p1, p2, p3, p4⟩ := hC.b5 List.mem_cons_self; obtain ⟨q0, q1, q2, q3, q4⟩ := hC.b5 (List.mem_cons_of_mem _ List.mem_cons_self); obtain ⟨s0, s1, s2, s3, s4⟩ := hC.b5 (List.mem_cons_of_mem _ (List.mem_cons_of_mem _ List.mem_cons_self)); obtain ⟨u0, u1⟩ := hC.b2 (List.mem_cons_of_mem _ (List.mem_cons_of_mem _ (List.mem_cons_of_mem _ List.mem_cons_self))); obtain ⟨d0, d1⟩ := hC.b2 (List.mem_cons_of_mem _ (List.mem_cons_of_mem _ (List.mem_cons_of_mem _ (List.mem_cons_of_mem _ List.mem_cons_self)))); clear hC; go_simp; first | done | with_reducible exact ⟨rfl, rfl⟩)
        clear hD
        with_reducible refine (HSPn.out _ _ (hC.at_ (List.mem_cons_of_mem _ (List.mem_cons_of_mem _ (List.mem_cons_of_mem _ (List.mem_cons_of_mem _ List.mem_cons_self)))))).mono ?_
        intro e wx h
        exact ao_sl h
      rintro _ ⟨ga14, gb14, gc14, gd14, rfl⟩
      have hfa14 := fun W => field_area ga14 os.dk.S.length gb14 gc14 os.dk.P.length gd14 os.text os.gen os.code W
      have hfb14 := fun W => field_area3 ga14 os.dk.S.length gb14 gc14 os.dk.P.length gd14 os.text os.gen os.code W
      try simp only [Act.put, List.setIfInBounds_toArray, List.set_cons_zero, List.set_cons_succ]
      repeat (first
        | (refine calm_skip (by rfl) ?_; try simp only [Act.put, List.setIfInBounds_toArray, List.set_cons_zero, List.set_cons_succ])
        | (refine calm_plain (by rfl) (by rfl) ?_; apply Exists.intro; refine ⟨fun wc hC hD => ?_, ?_⟩; (focus (clear hD; obtain ⟨p0, p1, p2, p3, p4⟩ := hC.b5 List.mem_cons_self; obtain ⟨q0, q1, q2, q3, q4⟩ := hC.b5 (List.mem_cons_of_mem _ List.mem_cons_self); obtain ⟨s0, s1, s2, s3, s4⟩ := hC.b5 (List.mem_cons_of_mem _ (List.mem_cons_of_mem _ List.mem_cons_self)); obtain ⟨u0, u1⟩ := hC.b2 (List.mem_cons_of_mem _ (List.mem_cons_of_mem _ (List.mem_cons_of_mem _ List.mem_cons_self))); obtain ⟨d0, d1⟩ := hC.b2 (List.mem_cons_of_mem _ (List.mem_cons_of_mem _ (List.mem_cons_of_mem _ (List.mem_cons_of_mem _ List.mem_cons_self)))); clear hC; go_simp; first | done | with_reducible rfl)); try simp only [Act.put, List.setIfInBounds_toArray, List.set_cons_zero, List.set_cons_succ]))
      refine calm_call _ _ (by rfl) (by rfl) ?_ ?_
      focus
        apply Exists.intro
        apply Exists.intro
        refine ⟨fun wc hC hD => ?_, fun wc hC hD => ?_⟩
        focus (clear hD; obtain ⟨p0, p1, p2, p3, p4⟩ := hC.b5 List.mem_cons_self; obtain ⟨q0, q1, q2, q3, q4⟩ := hC.b5 (List.mem_cons_of_mem _ List.mem_cons_self); obtain ⟨s0, s1, s2, s3, s4⟩ := hC.b5 (List.mem_cons_of_mem _ (List.mem_cons_of_mem _ List.mem_cons_self)); obtain ⟨u0, u1⟩ := hC.b2 (List.mem_cons_of_mem _ (List.mem_cons_of_mem _ (List.mem_cons_of_mem _ List.mem_cons_self))); obtain ⟨d0, d1⟩ := hC.b2 (List.mem_cons_of_mem _ (List.mem_cons_of_mem _ (List.mem_cons_of_mem _ (List.mem_cons_of_mem _ List.mem_cons_self)))); clear hC; go_simp; first | done | with_reducible exact ⟨rfl, rfl⟩)
        have ha := Deps.get hD 14 (by kernel_rfl)
        simp [upd, noF] at ha
        clear hD
        with_reducible refine (lw_disk _ _ _ _ os.dk _ (hC.at_ (List.mem_cons_of_mem _ List.mem_cons_self)) (ao_at ha) (by have := HBS.out.1; omega) (by have := HBS.out.2; omega)).mono ?_
        rintro e wx ⟨rfl, hb⟩
        exact ⟨_, rfl, hb, rfl, trivial⟩
      rintro _ rfl
      try simp only [Act.put, List.setIfInBounds_toArray, List.set_cons_zero, List.set_cons_succ]
      repeat (first
        | (refine calm_skip (by rfl) ?_; try simp only [Act.put, List.setIfInBounds_toArray, List.set_cons_zero, List.set_cons_succ])
        | (refine calm_plain (by rfl) (by rfl) ?_; apply Exists.intro; refine ⟨fun wc hC hD => ?_, ?_⟩; (focus (clear hD; obtain ⟨p0, p1, p2, p3, p4⟩ := hC.b5 List.mem_cons_self; obtain ⟨q0, q1, q2, q3, q4⟩ := hC.b5 (List.mem_cons_of_mem _ List.mem_cons_self); obtain ⟨s0, s1, s2, s3, s4⟩ := hC.b5 (List.mem_cons_of_mem _ (List.mem_cons_of_mem _ List.mem_cons_self)); obtain ⟨u0, u1⟩ := hC.b2 (List.mem_cons_of_mem _ (List.mem_cons_of_mem _ (List.mem_cons_of_mem _ List.mem_cons_self))); obtain ⟨d0, d1⟩ := hC.b2 (List.mem_cons_of_mem _ (List.mem_cons_of_mem _ (List.mem_cons_of_mem _ (List.mem_cons_of_mem _ List.mem_cons_self)))); clear hC; go_simp; first | done | with_reducible rfl)); try simp only [Act.put, List.setIfInBounds_toArray, List.set_cons_zero, List.set_cons_succ]))
      refine calm_end ?_
      intro w88 hL7 hF7
      clear hF7
      replace HF := Lib.hid hL7
      clear hL7

      go_upto_region 9 with fail
      refine wp_region_calm_fd [(5, AoSl os, AoAt os), (14, AoSl os, AoAt os), (16, (fun u => u = .bool true), (fun _ _ => True)), (23, AoSl oy, AoAt oy)] (by kernel_rfl) (by kernel_rfl) (by
        intro q hq v
        simp only [List.mem_cons, List.not_mem_nil, or_false] at hq
        rcases hq with rfl | rfl | rfl | rfl
        · exact AoAt.mono _ v
        · exact AoAt.mono _ v
        · exact mono_true
        · exact AoAt.mono _ v) HF.out ?_
      repeat (first
        | (refine calm_skip (by rfl) ?_; try simp only [Act.put, List.setIfInBounds_toArray, List.set_cons_zero, List.set_cons_succ])
        | (refine calm_plain (by rfl) (by rfl) ?_; apply Exists.intro; refine ⟨fun wc hC hD => ?_, ?_⟩; (focus (clear hD; obtain ⟨p0, p1, p2, p3, p4⟩ := hC.b5 List.mem_cons_self; obtain ⟨q0, q1, q2, q3, q4⟩ := hC.b5 (List.mem_cons_of_mem _ List.mem_cons_self); obtain ⟨s0, s1, s2, s3, s4⟩ := hC.b5 (List.mem_cons_of_mem _ (List.mem_cons_of_mem _ List.mem_cons_self)); obtain ⟨u0, u1⟩ := hC.b2 (List.mem_cons_of_mem _ (List.mem_cons_of_mem _ (List.mem_cons_of_mem _ List.mem_cons_self))); obtain ⟨d0, d1⟩ := hC.b2 (List.mem_cons_of_mem _ (List.mem_cons_of_mem _ (List.mem_cons_of_mem _ (List.mem_cons_of_mem _ List.mem_cons_self)))); clear hC; go_simp; first | done | with_reducible rfl)); try simp only [Act.put, List.setIfInBounds_toArray, List.set_cons_zero, List.set_cons_succ]))
      refine calm_call _ _ (by rfl) (by rfl) ?_ ?_
      focus
        apply Exists.intro
        apply Exists.intro
        refine ⟨fun wc hC hD => ?_, fun wc hC hD => ?_⟩
        focus (clear hD; obtain ⟨p0, p1, p2, p3, p4⟩ := hC.b5 List.mem_cons_self; obtain ⟨q0, q1, q2, q3, q4⟩ := hC.b5 (List.mem_cons_of_mem _ List.mem_cons_self); obtain ⟨s0, s1, s2, s3, s4⟩ := hC.b5 (List.mem_cons_of_mem _ (List.mem_cons_of_mem _ List.mem_cons_self)); obtain ⟨u0, u1⟩ := hC.b2 (List.mem_cons_of_mem _ (List.mem_cons_of_mem _ (List.mem_cons_of_mem _ List.mem_cons_self))); obtain ⟨d0, d1⟩ := hC.b2 (List.mem_cons_of_mem _ (List.mem_cons_of_mem _ (List.mem_cons_of_mem _ (List.mem_cons_of_mem _ List.mem_cons_self)))); clear hC; go_simp; first | done | with_reducible exact ⟨rfl, rfl⟩)
        clear hD
        with_reducible refine (HSPn.out _ _ (hC.at_ (List.mem_cons_of_mem _ (List.mem_cons_of_mem _ (List.mem_cons_of_mem _ (List.mem_cons_of_mem _ List.mem_cons_self)))))).mono ?_
        intro e wx h
        exact ao_sl h
      rintro _ ⟨ga5, gb5, gc5, gd5, rfl⟩
      have hfa5 := fun W => field_area ga5 os.dk.S.length gb5 gc5 os.dk.P.length gd5 os.text os.gen os.code W
      have hfb5 := fun W => field_area3 ga5 os.dk.S.length gb5 gc5 os.dk.P.length gd5 os.text os.gen os.code W
      try simp only [Act.put, List.setIfInBounds_toArray, List.set_cons_zero, List.set_cons_succ]
      repeat (first
        | (refine calm_skip (by rfl) ?_; try simp only [Act.put, List.setIfInBounds_toArray, List.set_cons_zero, List.set_cons_succ])
        | (refine calm_plain (by rfl) (by rfl) ?_; apply Exists.intro; refine ⟨fun wc hC hD => ?_, ?_⟩; (focus (clear hD; obtain ⟨p0, p1, p2, p3, p4⟩ := hC.b5 List.mem_cons_self; obtain ⟨q0, q1, q2, q3, q4⟩ := hC.b5 (List.mem_cons_of_mem _ List.mem_cons_self); obtain ⟨s0, s1, s2, s3, s4⟩ := hC.b5 (List.mem_cons_of_mem _ (List.mem_cons_of_mem _ List.mem_cons_self)); obtain ⟨u0, u1⟩ := hC.b2 (List.mem_cons_of_mem _ (List.mem_cons_of_mem _ (List.mem_cons_of_mem _ List.mem_cons_self))); obtain ⟨d0, d1⟩ := hC.b2 (List.mem_cons_of_mem _ (List.mem_cons_of_mem _ (List.mem_cons_of_mem _ (List.mem_cons_of_mem _ List.mem_cons_self)))); clear hC; go_simp; first | done | with_reducible rfl)); try simp only [Act.put, List.setIfInBounds_toArray, List.set_cons_zero, List.set_cons_succ]))
      refine calm_call _ _ (by rfl) (by rfl) ?_ ?_
      focus
        apply Exists.intro
        apply Exists.intro
        refine ⟨fun wc hC hD => ?_, fun wc hC hD => ?_⟩
        focus (clear hD; obtain ⟨p0, p1, p2, p3, p4⟩ := hC.b5 List.mem_cons_self; obtain ⟨q0, q1, q2, q3, q4⟩ := hC.b5 (List.mem_cons_of_mem _ List.mem_cons_self); obtain ⟨s0, s1, s2, s3, s4⟩ := hC.b5 (List.mem_cons_of_mem _ (List.mem_cons_of_mem _ List.mem_cons_self)); obtain ⟨u0, u1⟩ := hC.b2 (List.mem_cons_of_mem _ (List.mem_cons_of_mem _ (List.mem_cons_of_mem _ List.mem_cons_self))); obtain ⟨d0, d1⟩ := hC.b2 (List.mem_cons_of_mem _ (List.mem_cons_of_mem _ (List.mem_cons_of_mem _ (List.mem_cons_of_mem _ List.mem_cons_self)))); clear hC; go_simp; first | done | with_reducible exact ⟨rfl, rfl⟩)
        clear hD
        with_reducible refine (HSPn.out _ _ (hC.at_ (List.mem_cons_of_mem _ (List.mem_cons_of_mem _ (List.mem_cons_of_mem _ (List.mem_cons_of_mem _ List.mem_cons_self)))))).mono ?_
        intro e wx h
        exact ao_sl h
      rintro _ ⟨ga14, gb14, gc14, gd14, rfl⟩
      have hfa14 := fun W => field_area ga14 os.dk.S.length gb14 gc14 os.dk.P.length gd14 os.text os.gen os.code W
      have hfb14 := fun W => field_area3 ga14 os.dk.S.length gb14 gc14 os.dk.P.length gd14 os.text os.gen os.code W
      try simp only [Act.put, List.setIfInBounds_toArray, List.set_cons_zero, List.set_cons_succ]
      repeat (first
        | (refine calm_skip (by rfl) ?_; try simp only [Act.put, List.setIfInBounds_toArray, List.set_cons_zero, List.set_cons_succ])
        | (refine calm_plain (by rfl) (by rfl) ?_; apply Exists.intro; refine ⟨fun wc hC hD => ?_, ?_⟩; (focus (clear hD; obtain ⟨p0, p1, p2, p3, p4⟩ := hC.b5 List.mem_cons_self; obtain ⟨q0, q1, q2, q3, q4⟩ := hC.b5 (List.mem_cons_of_mem _ List.mem_cons_self); obtain ⟨s0, s1, s2, s3, s4⟩ := hC.b5 (List.mem_cons_of_mem _ (List.mem_cons_of_mem _ List.mem_cons_self)); obtain ⟨u0, u1⟩ := hC.b2 (List.mem_cons_of_mem _ (List.mem_cons_of_mem _ (List.mem_cons_of_mem _ List.mem_cons_self))); obtain ⟨d0, d1⟩ := hC.b2 (List.mem_cons_of_mem _ (List.mem_cons_of_mem _ (List.mem_cons_of_mem _ (List.mem_cons_of_mem _ List.mem_cons_self)))); clear hC; go_simp; first | done | with_reducible rfl)); try simp only [Act.put, List.setIfInBounds_toArray, List.set_cons_zero, List.set_cons_succ]))
      refine calm_call _ _ (by rfl) (by rfl) ?_ ?_
      focus
        apply Exists.intro
        apply Exists.intro
        refine ⟨fun wc hC hD => ?_, fun wc hC hD => ?_⟩
        focus (clear hD; obtain ⟨p0, p1, p2, p3, p4⟩ := hC.b5 List.mem_cons_self; obtain ⟨q0, q1, q2, q3, q4⟩ := hC.b5 (List.mem_cons_of_mem _ List.mem_cons_self); obtain ⟨s0, s1, s2, s3, s4⟩ := hC.b5 (List.mem_cons_of_mem _ (List.mem_cons_of_mem _ List.mem_cons_self)); obtain ⟨u0, u1⟩ := hC.b2 (List.mem_cons_of_mem _ (List.mem_cons_of_mem _ (List.mem_cons_of_mem _ List.mem_cons_self))); obtain ⟨d0, d1⟩ := hC.b2 (List.mem_cons_of_mem _ (List.mem_cons_of_mem _ (List.mem_cons_of_mem _ (List.mem_cons_of_mem _ List.mem_cons_self)))); clear hC; go_simp; first | done | with_reducible exact ⟨rfl, rfl⟩)
        have ha := Deps.get hD 14 (by kernel_rfl)
        simp [upd, noF] at ha
        clear hD
        with_reducible refine (lw_disk _ _ _ _ os.dk _ (hC.at_ (List.mem_cons_of_mem _ List.mem_cons_self)) (ao_at ha) (by have := HBS.out.1; omega) (by have := HBS.out.2; omega)).mono ?_
        rintro e wx ⟨rfl, hb⟩
        exact ⟨_, rfl, hb, rfl, trivial⟩
      rintro _ rfl
      try simp only [Act.put, List.setIfInBounds_toArray, List.set_cons_zero, List.set_cons_succ]
      repeat (first
        | (refine calm_skip (by rfl) ?_; try simp only [Act.put, List.setIfInBounds_toArray, List.set_cons_zero, List.set_cons_succ])
        | (refine calm_plain (by rfl) (by rfl) ?_; apply Exists.intro; refine ⟨fun wc hC hD => ?_, ?_⟩; (focus (clear hD; obtain ⟨p0, p1, p2, p3, p4⟩ := hC.b5 List.mem_cons_self; obtain ⟨q0, q1, q2, q3, q4⟩ := hC.b5 (List.mem_cons_of_mem _ List.mem_cons_self); obtain ⟨s0, s1, s2, s3, s4⟩ := hC.b5 (List.mem_cons_of_mem _ (List.mem_cons_of_mem _ List.mem_cons_self)); obtain ⟨u0, u1⟩ := hC.b2 (List.mem_cons_of_mem _ (List.mem_cons_of_mem _ (List.mem_cons_of_mem _ List.mem_cons_self))); obtain ⟨d0, d1⟩ := hC.b2 (List.mem_cons_of_mem _ (List.mem_cons_of_mem _ (List.mem_cons_of_mem _ (List.mem_cons_of_mem _ List.mem_cons_self)))); clear hC; go_simp; first | done | with_reducible rfl)); try simp only [Act.put, List.setIfInBounds_toArray, List.set_cons_zero, List.set_cons_succ]))
      refine calm_call _ _ (by rfl) (by rfl) ?_ ?_
      focus
        apply Exists.intro
        apply Exists.intro
        refine ⟨fun wc hC hD => ?_, fun wc hC hD => ?_⟩
        focus (clear hD; obtain ⟨p0, p1, p2, p3, p4⟩ := hC.b5 List.mem_cons_self; obtain ⟨q0, q1, q2, q3, q4⟩ := hC.b5 (List.mem_cons_of_mem _ List.mem_cons_self); obtain ⟨s0, s1, s2, s3, s4⟩ := hC.b5 (List.mem_cons_of_mem _ (List.mem_cons_of_mem _ List.mem_cons_self)); obtain ⟨u0, u1⟩ := hC.b2 (List.mem_cons_of_mem _ (List.mem_cons_of_mem _ (List.mem_cons_of_mem _ List.mem_cons_self))); obtain ⟨d0, d1⟩ := hC.b2 (List.mem_cons_of_mem _ (List.mem_cons_of_mem _ (List.mem_cons_of_mem _ (List.mem_cons_of_mem _ List.mem_cons_self)))); clear hC; go_simp; first | done | with_reducible exact ⟨rfl, rfl⟩)
        clear hD
        with_reducible refine (HSP.out _ _ (hC.at_ (List.mem_cons_of_mem _ (List.mem_cons_of_mem _ (List.mem_cons_of_mem _ (List.mem_cons_of_mem _ List.mem_cons_self)))))).mono ?_
        intro e wx h
        exact ao_sl h
      rintro _ ⟨ga23, gb23, gc23, gd23, rfl⟩
      have hfa23 := fun W => field_area ga23 oy.dk.S.length gb23 gc23 oy.dk.P.length gd23 oy.text oy.gen oy.code W
      have hfb23 := fun W => field_area3 ga23 oy.dk.S.length gb23 gc23 oy.dk.P.length gd23 oy.text oy.gen oy.code W
      try simp only [Act.put, List.setIfInBounds_toArray, List.set_cons_zero, List.set_cons_succ]
      repeat (first
        | (refine calm_skip (by rfl) ?_; try simp only [Act.put, List.setIfInBounds_toArray, List.set_cons_zero, List.set_cons_succ])
        | (refine calm_plain (by rfl) (by rfl) ?_; apply Exists.intro; refine ⟨fun wc hC hD => ?_, ?_⟩; (focus (clear hD; obtain ⟨p0, p1, p2, p3, p4⟩ := hC.b5 List.mem_cons_self; obtain ⟨q0, q1, q2, q3, q4⟩ := hC.b5 (List.mem_cons_of_mem _ List.mem_cons_self); obtain ⟨s0, s1, s2, s3, s4⟩ := hC.b5 (List.mem_cons_of_mem _ (List.mem_cons_of_mem _ List.mem_cons_self)); obtain ⟨u0, u1⟩ := hC.b2 (List.mem_cons_of_mem _ (List.mem_cons_of_mem _ (List.mem_cons_of_mem _ List.mem_cons_self))); obtain ⟨d0, d1⟩ := hC.b2 (List.mem_cons_of_mem _ (List.mem_cons_of_mem _ (List.mem_cons_of_mem _ (List.mem_cons_of_mem _ List.mem_cons_self)))); clear hC; go_simp; first | done | with_reducible rfl)); try simp only [Act.put, List.setIfInBounds_toArray, List.set_cons_zero, List.set_cons_succ]))
      refine calm_end ?_
      intro w89 hL7 hF7
      clear hF7
      replace HF := Lib.hid hL7
      clear hL7
      go_wp2
      go_ret
      exact ⟨rfl, HF.out.bel⟩

  · have hx1 : (os.code != 0) = true := by simp [hxc]
    clear hxc
    go_upto_region 8 with fail
    refine wp_region_calm_fd [(5, AoSl os, AoAt os), (14, AoSl os, AoAt os), (16, (fun u => u = .bool true), (fun _ _ => True))] (by kernel_rfl) (by kernel_rfl) (by
      intro q hq v
      simp only [List.mem_cons, List.not_mem_nil, or_false] at hq
      rcases hq with rfl | rfl | rfl
      · exact AoAt.mono _ v
      · exact AoAt.mono _ v
      · exact mono_true) HF.out ?_
    repeat (first
      | (refine calm_skip (by rfl) ?_; try simp only [Act.put, List.setIfInBounds_toArray, List.set_cons_zero, List.set_cons_succ])
      | (refine calm_plain (by rfl) (by rfl) ?_; apply Exists.intro; refine ⟨fun wc hC hD => ?_, ?_⟩; (focus (clear hD; obtain ⟨p0, p1, p2, p3, p4⟩ := hC.b5 List.mem_cons_self; obtain ⟨q0, q1, q2, q3, q4⟩ := hC.b5 (List.mem_cons_of_mem _ List.mem_cons_self); obtain ⟨s0, s1, s2, s3, s4⟩ := hC.b5 (List.mem_cons_of_mem _ (List.mem_cons_of_mem _ List.mem_cons_self)); obtain ⟨u0, u1⟩ := hC.b2 (List.mem_cons_of_mem _ (List.mem_cons_of_mem _ (List.mem_cons_of_mem _ List.mem_cons_self))); obtain ⟨d0, d1⟩ := hC.b2 (List.mem_cons_of_mem _ (List.mem_cons_of_mem _ (List.mem_cons_of_mem _ (List.mem_cons_of_mem _ List.mem_cons_self)))); clear hC; go_simp; first | done | with_reducible rfl)); try simp only [Act.put, List.setIfInBounds_toArray, List.set_cons_zero, List.set_cons_succ]))
    refine calm_call _ _ (by rfl) (by rfl) ?_ ?_
    focus
      apply Exists.intro
      apply Exists.intro
      refine ⟨fun wc hC hD => ?_, fun wc hC hD => ?_⟩
      focus (clear hD; obtain ⟨p0, p1, p2, p3, p4⟩ := hC.b5 List.mem_cons_self; obtain ⟨q0, q1, q2, q3, q4⟩ := hC.b5 (List.mem_cons_of_mem _ List.mem_cons_self); obtain ⟨s0, s1, s2, s3, s4⟩ := hC.b5 (List.mem_cons_of_mem _ (List.mem_cons_of_mem _ List.mem_cons_self)); obtain ⟨u0, u1⟩ := hC.b2 (List.mem_cons_of_mem _ (List.mem_cons_of_mem _ (List.mem_cons_of_mem _ List.mem_cons_self))); obtain ⟨d0, d1⟩ := hC.b2 (List.mem_cons_of_mem _ (List.mem_cons_of_mem _ (List.mem_cons_of_mem _ (List.mem_cons_of_mem _ List.mem_cons_self)))); clear hC; go_simp; first | done | with_reducible exact ⟨rfl, rfl⟩)
      clear hD
      with_reducible refine (HSPn.out _ _ (hC.at_ (List.mem_cons_of_mem _ (List.mem_cons_of_mem _ (List.mem_cons_of_mem _ (List.mem_cons_of_mem _ List.mem_cons_self)))))).mono ?_
      intro e wx h
      exact ao_sl h
    rintro _ ⟨ga5, gb5, gc5, gd5, rfl⟩
    have hfa5 := fun W => field_area ga5 os.dk.S.length gb5 gc5 os.dk.P.length gd5 os.text os.gen os.code W
    have hfb5 := fun W => field_area3 ga5 os.dk.S.length gb5 gc5 os.dk.P.length gd5 os.text os.gen os.code W
    try simp only [Act.put, List.setIfInBounds_toArray, List.set_cons_zero, List.set_cons_succ]
    repeat (first
      | (refine calm_skip (by rfl) ?_; try simp only [Act.put, List.setIfInBounds_toArray, List.set_cons_zero, List.set_cons_succ])
      | (refine calm_plain (by rfl) (by rfl) ?_; apply Exists.intro; refine ⟨fun wc hC hD => ?_, ?_⟩; (focus (clear hD; obtain ⟨p0, p1, p2, p3, p4⟩ := hC.b5 List.mem_cons_self; obtain ⟨q0, q1, q2, q3, q4⟩ := hC.b5 (List.mem_cons_of_mem _ List.mem_cons_self); obtain ⟨s0, s1, s2, s3, s4⟩ := hC.b5 (List.mem_cons_of_mem _ (List.mem_cons_of_mem _ List.mem_cons_self)); obtain ⟨u0, u1⟩ := hC.b2 (List.mem_cons_of_mem _ (List.mem_cons_of_mem _ (List.mem_cons_of_mem _ List.mem_cons_self))); obtain ⟨d0, d1⟩ := hC.b2 (List.mem_cons_of_mem _ (List.mem_cons_of_mem _ (List.mem_cons_of_mem _ (List.mem_cons_of_mem _ List.mem_cons_self)))); clear hC; go_simp; first | done | with_reducible rfl)); try simp only [Act.put, List.setIfInBounds_toArray, List.set_cons_zero, List.set_cons_succ]))
    refine calm_call _ _ (by rfl) (by rfl) ?_ ?_
    focus
      apply Exists.intro
      apply Exists.intro
      refine ⟨fun wc hC hD => ?_, fun wc hC hD => ?_⟩
      focus (clear hD; obtain ⟨p0, p1, p2, p3, p4⟩ := hC.b5 List.mem_cons_self; obtain ⟨q0, q1, q2, q3, q4⟩ := hC.b5 (List.mem_cons_of_mem _ List.mem_cons_self); obtain ⟨s0, s1, s2, s3, s4⟩ := hC.b5 (List.mem_cons_of_mem _ (List.mem_cons_of_mem _ List.mem_cons_self)); obtain ⟨u0, u1⟩ := hC.b2 (List.mem_cons_of_mem _ (List.mem_cons_of_mem _ (List.mem_cons_of_mem _ List.mem_cons_self))); obtain ⟨d0, d1⟩ := hC.b2 (List.mem_cons_of_mem _ (List.mem_cons_of_mem _ (List.mem_cons_of_mem _ (List.mem_cons_of_mem _ List.mem_cons_self)))); clear hC; go_simp; first | done | with_reducible exact ⟨rfl, rfl⟩)
      clear hD
      with_reducible refine (HSPn.out _ _ (hC.at_ (List.mem_cons_of_mem _ (List.mem_cons_of_mem _ (List.mem_cons_of_mem _ (List.mem_cons_of_mem _ List.mem_cons_self)))))).mono ?_
      intro e wx h
      exact ao_sl h
    rintro _ ⟨ga14, gb14, gc14, gd14, rfl⟩
    have hfa14 := fun W => field_area ga14 os.dk.S.length gb14 gc14 os.dk.P.length gd14 os.text os.gen os.code W
    have hfb14 := fun W => field_area3 ga14 os.dk.S.length gb14 gc14 os.dk.P.length gd14 os.text os.gen os.code W
    try simp only [Act.put, List.setIfInBounds_toArray, List.set_cons_zero, List.set_cons_succ]
    repeat (first
      | (refine calm_skip (by rfl) ?_; try simp only [Act.put, List.setIfInBounds_toArray, List.set_cons_zero, List.set_cons_succ])
      | (refine calm_plain (by rfl) (by rfl) ?_; apply Exists.intro; refine ⟨fun wc hC hD => ?_, ?_⟩; (focus (clear hD; obtain ⟨p0, p1, p2, p3, p4⟩ := hC.b5 List.mem_cons_self; obtain ⟨q0, q1, q2, q3, q4⟩ := hC.b5 (List.mem_cons_of_mem _ List.mem_cons_self); obtain ⟨s0, s1, s2, s3, s4⟩ := hC.b5 (List.mem_cons_of_mem _ (List.mem_cons_of_mem _ List.mem_cons_self)); obtain ⟨u0, u1⟩ := hC.b2 (List.mem_cons_of_mem _ (List.mem_cons_of_mem _ (List.mem_cons_of_mem _ List.mem_cons_self))); obtain ⟨d0, d1⟩ := hC.b2 (List.mem_cons_of_mem _ (List.mem_cons_of_mem _ (List.mem_cons_of_mem _ (List.mem_cons_of_mem _ List.mem_cons_self)))); clear hC; go_simp; first | done | with_reducible rfl)); try simp only [Act.put, List.setIfInBounds_toArray, List.set_cons_zero, List.set_cons_succ]))
    refine calm_call _ _ (by rfl) (by rfl) ?_ ?_
    focus
      apply Exists.intro
      apply Exists.intro
      refine ⟨fun wc hC hD => ?_, fun wc hC hD => ?_⟩
      focus (clear hD; obtain ⟨p0, p1, p2, p3, p4⟩ := hC.b5 List.mem_cons_self; obtain ⟨q0, q1, q2, q3, q4⟩ := hC.b5 (List.mem_cons_of_mem _ List.mem_cons_self); obtain ⟨s0, s1, s2, s3, s4⟩ := hC.b5 (List.mem_cons_of_mem _ (List.mem_cons_of_mem _ List.mem_cons_self)); obtain ⟨u0, u1⟩ := hC.b2 (List.mem_cons_of_mem _ (List.mem_cons_of_mem _ (List.mem_cons_of_mem _ List.mem_cons_self))); obtain ⟨d0, d1⟩ := hC.b2 (List.mem_cons_of_mem _ (List.mem_cons_of_mem _ (List.mem_cons_of_mem _ (List.mem_cons_of_mem _ List.mem_cons_self)))); clear hC; go_simp; first | done | with_reducible exact ⟨rfl, rfl⟩)
      have ha := Deps.get hD 14 (by kernel_rfl)
      simp [upd, noF] at ha
      clear hD
      with_reducible refine (lw_disk _ _ _ _ os.dk _ (hC.at_ (List.mem_cons_of_mem _ List.mem_cons_self)) (ao_at ha) (by have := HBS.out.1; omega) (by have := HBS.out.2; omega)).mono ?_
      rintro e wx ⟨rfl, hb⟩
      exact ⟨_, rfl, hb, rfl, trivial⟩
    rintro _ rfl
    try simp only [Act.put, List.setIfInBounds_toArray, List.set_cons_zero, List.set_cons_succ]
    repeat (first
      | (refine calm_skip (by rfl) ?_; try simp only [Act.put, List.setIfInBounds_toArray, List.set_cons_zero, List.set_cons_succ])
      | (refine calm_plain (by rfl) (by rfl) ?_; apply Exists.intro; refine ⟨fun wc hC hD => ?_, ?_⟩; (focus (clear hD; obtain ⟨p0, p1, p2, p3, p4⟩ := hC.b5 List.mem_cons_self; obtain ⟨q0, q1, q2, q3, q4⟩ := hC.b5 (List.mem_cons_of_mem _ List.mem_cons_self); obtain ⟨s0, s1, s2, s3, s4⟩ := hC.b5 (List.mem_cons_of_mem _ (List.mem_cons_of_mem _ List.mem_cons_self)); obtain ⟨u0, u1⟩ := hC.b2 (List.mem_cons_of_mem _ (List.mem_cons_of_mem _ (List.mem_cons_of_mem _ List.mem_cons_self))); obtain ⟨d0, d1⟩ := hC.b2 (List.mem_cons_of_mem _ (List.mem_cons_of_mem _ (List.mem_cons_of_mem _ (List.mem_cons_of_mem _ List.mem_cons_self)))); clear hC; go_simp; first | done | with_reducible rfl)); try simp only [Act.put, List.setIfInBounds_toArray, List.set_cons_zero, List.set_cons_succ]))
    refine calm_end ?_
    intro w88 hL7 hF7
    clear hF7
    replace HF := Lib.hid hL7
    clear hL7

    go_upto_region 9 with fail
    refine wp_region_calm_fd [(5, AoSl os, AoAt os), (14, AoSl os, AoAt os), (16, (fun u => u = .bool true), (fun _ _ => True)), (23, AoSl oy, AoAt oy)] (by kernel_rfl) (by kernel_rfl) (by
      intro q hq v
      simp only [List.mem_cons, List.not_mem_nil, or_false] at hq
      rcases hq with rfl | rfl | rfl | rfl
      · exact AoAt.mono _ v
      · exact AoAt.mono _ v
      · exact mono_true
      · exact AoAt.mono _ v) HF.out ?_
    repeat (first
      | (refine calm_skip (by rfl) ?_; try simp only [Act.put, List.setIfInBounds_toArray, List.set_cons_zero, List.set_cons_succ])
      | (refine calm_plain (by rfl) (by rfl) ?_; apply Exists.intro; refine ⟨fun wc hC hD => ?_, ?_⟩; (focus (clear hD; obtain ⟨p0, p1, p2, p3, p4⟩ := hC.b5 List.mem_cons_self; obtain ⟨q0, q1, q2, q3, q4⟩ := hC.b5 (List.mem_cons_of_mem _ List.mem_cons_self); obtain ⟨s0, s1, s2, s3, s4⟩ := hC.b5 (List.mem_cons_of_mem _ (List.mem_cons_of_mem _ List.mem_cons_self)); obtain ⟨u0, u1⟩ := hC.b2 (List.mem_cons_of_mem _ (List.mem_cons_of_mem _ (List.mem_cons_of_mem _ List.mem_cons_self))); obtain ⟨d0, d1⟩ := hC.b2 (List.mem_cons_of_mem _ (List.mem_cons_of_mem _ (List.mem_cons_of_mem _ (List.mem_cons_of_mem _ List.mem_cons_self)))); clear hC; go_simp; first | done | with_reducible rfl)); try simp only [Act.put, List.setIfInBounds_toArray, List.set_cons_zero, List.set_cons_succ]))
    refine calm_call _ _ (by rfl) (by rfl) ?_ ?_
    focus
      apply Exists.intro
      apply Exists.intro
      refine ⟨fun wc hC hD => ?_, fun wc hC hD => ?_⟩
      focus (clear hD; obtain ⟨p0, p1, p2, p3, p4⟩ := hC.b5 List.mem_cons_self; obtain ⟨q0, q1, q2, q3, q4⟩ := hC.b5 (List.mem_cons_of_mem _ List.mem_cons_self); obtain ⟨s0, s1, s2, s3, s4⟩ := hC.b5 (List.mem_cons_of_mem _ (List.mem_cons_of_mem _ List.mem_cons_self)); obtain ⟨u0, u1⟩ := hC.b2 (List.mem_cons_of_mem _ (List.mem_cons_of_mem _ (List.mem_cons_of_mem _ List.mem_cons_self))); obtain ⟨d0, d1⟩ := hC.b2 (List.mem_cons_of_mem _ (List.mem_cons_of_mem _ (List.mem_cons_of_mem _ (List.mem_cons_of_mem _ List.mem_cons_self)))); clear hC; go_simp; first | done | with_reducible exact ⟨rfl, rfl⟩)
      clear hD
      with_reducible refine (HSPn.out _ _ (hC.at_ (List.mem_cons_of_mem _ (List.mem_cons_of_mem _ (List.mem_cons_of_mem _ (List.mem_cons_of_mem _ List.mem_cons_self)))))).mono ?_
      intro e wx h
      exact ao_sl h
    rintro _ ⟨ga5, gb5, gc5, gd5, rfl⟩
    have hfa5 := fun W => field_area ga5 os.dk.S.length gb5 gc5 os.dk.P.length gd5 os.text os.gen os.code W
    have hfb5 := fun W => field_area3 ga5 os.dk.S.length gb5 gc5 os.dk.P.length gd5 os.text os.gen os.code W
    try simp only [Act.put, List.setIfInBounds_toArray, List.set_cons_zero, List.set_cons_succ]
    repeat (first
      | (refine calm_skip (by rfl) ?_; try simp only [Act.put, List.setIfInBounds_toArray, List.set_cons_zero, List.set_cons_succ])
      | (refine calm_plain (by rfl) (by rfl) ?_; apply Exists.intro; refine ⟨fun wc hC hD => ?_, ?_⟩; (focus (clear hD; obtain ⟨p0, p1, p2, p3, p4⟩ := hC.b5 List.mem_cons_self; obtain ⟨q0, q1, q2, q3, q4⟩ := hC.b5 (List.mem_cons_of_mem _ List.mem_cons_self); obtain ⟨s0, s1, s2, s3, s4⟩ := hC.b5 (List.mem_cons_of_mem _ (List.mem_cons_of_mem _ List.mem_cons_self)); obtain ⟨u0, u1⟩ := hC.b2 (List.mem_cons_of_mem _ (List.mem_cons_of_mem _ (List.mem_cons_of_mem _ List.mem_cons_self))); obtain ⟨d0, d1⟩ := hC.b2 (List.mem_cons_of_mem _ (List.mem_cons_of_mem _ (List.mem_cons_of_mem _ (List.mem_cons_of_mem _ List.mem_cons_self)))); clear hC; go_simp; first | done | with_reducible rfl)); try simp only [Act.put, List.setIfInBounds_toArray, List.set_cons_zero, List.set_cons_succ]))
    refine calm_call _ _ (by rfl) (by rfl) ?_ ?_
    focus
      apply Exists.intro
      apply Exists.intro
      refine ⟨fun wc hC hD => ?_, fun wc hC hD => ?_⟩
      focus (clear hD; obtain ⟨p0, p1, p2, p3, p4⟩ := hC.b5 List.mem_cons_self; obtain ⟨q0, q1, q2, q3, q4⟩ := hC.b5 (List.mem_cons_of_mem _ List.mem_cons_self); obtain ⟨s0, s1, s2, s3, s4⟩ := hC.b5 (List.mem_cons_of_mem _ (List.mem_cons_of_mem _ List.mem_cons_self)); obtain ⟨u0, u1⟩ := hC.b2 (List.mem_cons_of_mem _ (List.mem_cons_of_mem _ (List.mem_cons_of_mem _ List.mem_cons_self))); obtain ⟨d0, d1⟩ := hC.b2 (List.mem_cons_of_mem _ (List.mem_cons_of_mem _ (List.mem_cons_of_mem _ (List.mem_cons_of_mem _ List.mem_cons_self)))); clear hC; go_simp; first | done | with_reducible exact ⟨rfl, rfl⟩)
      clear hD
      with_reducible refine (HSPn.out _ _ (hC.at_ (List.mem_cons_of_mem _ (List.mem_cons_of_mem _ (List.mem_cons_of_mem _ (List.mem_cons_of_mem _ List.mem_cons_self)))))).mono ?_
      intro e wx h
      exact ao_sl h
    rintro _ ⟨ga14, gb14, gc14, gd14, rfl⟩
    have hfa14 := fun W => field_area ga14 os.dk.S.length gb14 gc14 os.dk.P.length gd14 os.text os.gen os.code W
    have hfb14 := fun W => field_area3 ga14 os.dk.S.length gb14 gc14 os.dk.P.length gd14 os.text os.gen os.code W
    try simp only [Act.put, List.setIfInBounds_toArray, List.set_cons_zero, List.set_cons_succ]
    repeat (first
      | (refine calm_skip (by rfl) ?_; try simp only [Act.put, List.setIfInBounds_toArray, List.set_cons_zero, List.set_cons_succ])
      | (refine calm_plain (by rfl) (by rfl) ?_; apply Exists.intro; refine ⟨fun wc hC hD => ?_, ?_⟩; (focus (clear hD; obtain ⟨p0, p1, p2, p3, p4⟩ := hC.b5 List.mem_cons_self; obtain ⟨q0, q1, q2, q3, q4⟩ := hC.b5 (List.mem_cons_of_mem _ List.mem_cons_self); obtain ⟨s0, s1, s2, s3, s4⟩ := hC.b5 (List.mem_cons_of_mem _ (List.mem_cons_of_mem _ List.mem_cons_self)); obtain ⟨u0, u1⟩ := hC.b2 (List.mem_cons_of_mem _ (List.mem_cons_of_mem _ (List.mem_cons_of_mem _ List.mem_cons_self))); obtain ⟨d0, d1⟩ := hC.b2 (List.mem_cons_of_mem _ (List.mem_cons_of_mem _ (List.mem_cons_of_mem _ (List.mem_cons_of_mem _ List.mem_cons_self)))); clear hC; go_simp; first | done | with_reducible rfl)); try simp only [Act.put, List.setIfInBounds_toArray, List.set_cons_zero, List.set_cons_succ]))
    refine calm_call _ _ (by rfl) (by rfl) ?_ ?_
    focus
      apply Exists.intro
      apply Exists.intro
      refine ⟨fun wc hC hD => ?_, fun wc hC hD => ?_⟩
      focus (clear hD; obtain ⟨p0, p1, p2, p3, p4⟩ := hC.b5 List.mem_cons_self; obtain ⟨q0, q1, q2, q3, q4⟩ := hC.b5 (List.mem_cons_of_mem _ List.mem_cons_self); obtain ⟨s0, s1, s2, s3, s4⟩ := hC.b5 (List.mem_cons_of_mem _ (List.mem_cons_of_mem _ List.mem_cons_self)); obtain ⟨u0, u1⟩ := hC.b2 (List.mem_cons_of_mem _ (List.mem_cons_of_mem _ (List.mem_cons_of_mem _ List.mem_cons_self))); obtain ⟨d0, d1⟩ := hC.b2 (List.mem_cons_of_mem _ (List.mem_cons_of_mem _ (List.mem_cons_of_mem _ (List.mem_cons_of_mem _ List.mem_cons_self)))); clear hC; go_simp; first | done | with_reducible exact ⟨rfl, rfl⟩)
      have ha := Deps.get hD 14 (by kernel_rfl)
      simp [upd, noF] at ha
      clear hD
      with_reducible refine (lw_disk _ _ _ _ os.dk _ (hC.at_ (List.mem_cons_of_mem _ List.mem_cons_self)) (ao_at ha) (by have := HBS.out.1; omega) (by have := HBS.out.2; omega)).mono ?_
      rintro e wx ⟨rfl, hb⟩
      exact ⟨_, rfl, hb, rfl, trivial⟩
    rintro _ rfl
    try simp only [Act.put, List.setIfInBounds_toArray, List.set_cons_zero, List.set_cons_succ]
    repeat (first
      | (refine calm_skip (by rfl) ?_; try simp only [Act.put, List.setIfInBounds_toArray, List.set_cons_zero, List.set_cons_succ])
      | (refine calm_plain (by rfl) (by rfl) ?_; apply Exists.intro; refine ⟨fun wc hC hD => ?_, ?_⟩; (focus (clear hD; obtain ⟨p0, p1, p2, p3, p4⟩ := hC.b5 List.mem_cons_self; obtain ⟨q0, q1, q2, q3, q4⟩ := hC.b5 (List.mem_cons_of_mem _ List.mem_cons_self); obtain ⟨s0, s1, s2, s3, s4⟩ := hC.b5 (List.mem_cons_of_mem _ (List.mem_cons_of_mem _ List.mem_cons_self)); obtain ⟨u0, u1⟩ := hC.b2 (List.mem_cons_of_mem _ (List.mem_cons_of_mem _ (List.mem_cons_of_mem _ List.mem_cons_self))); obtain ⟨d0, d1⟩ := hC.b2 (List.mem_cons_of_mem _ (List.mem_cons_of_mem _ (List.mem_cons_of_mem _ (List.mem_cons_of_mem _ List.mem_cons_self)))); clear hC; go_simp; first | done | with_reducible rfl)); try simp only [Act.put, List.setIfInBounds_toArray, List.set_cons_zero, List.set_cons_succ]))
    refine calm_call _ _ (by rfl) (by rfl) ?_ ?_
    focus
      apply Exists.intro
      apply Exists.intro
      refine ⟨fun wc hC hD => ?_, fun wc hC hD => ?_⟩
      focus (clear hD; obtain ⟨p0, p1, p2, p3, p4⟩ := hC.b5 List.mem_cons_self; obtain ⟨q0, q1, q2, q3, q4⟩ := hC.b5 (List.mem_cons_of_mem _ List.mem_cons_self); obtain ⟨s0, s1, s2, s3, s4⟩ := hC.b5 (List.mem_cons_of_mem _ (List.mem_cons_of_mem _ List.mem_cons_self)); obtain ⟨u0, u1⟩ := hC.b2 (List.mem_cons_of_mem _ (List.mem_cons_of_mem _ (List.mem_cons_of_mem _ List.mem_cons_self))); obtain ⟨d0, d1⟩ := hC.b2 (List.mem_cons_of_mem _ (List.mem_cons_of_mem _ (List.mem_cons_of_mem _ (List.mem_cons_of_mem _ List.mem_cons_self)))); clear hC; go_simp; first | done | with_reducible exact ⟨rfl, rfl⟩)
      clear hD
      with_reducible refine (HSP.out _ _ (hC.at_ (List.mem_cons_of_mem _ (List.mem_cons_of_mem _ (List.mem_cons_of_mem _ (List.mem_cons_of_mem _ List.mem_cons_self)))))).mono ?_
      intro e wx h
      exact ao_sl h
    rintro _ ⟨ga23, gb23, gc23, gd23, rfl⟩
    have hfa23 := fun W => field_area ga23 oy.dk.S.length gb23 gc23 oy.dk.P.length gd23 oy.text oy.gen oy.code W
    have hfb23 := fun W => field_area3 ga23 oy.dk.S.length gb23 gc23 oy.dk.P.length gd23 oy.text oy.gen oy.code W
    try simp only [Act.put, List.setIfInBounds_toArray, List.set_cons_zero, List.set_cons_succ]
    repeat (first
      | (refine calm_skip (by rfl) ?_; try simp only [Act.put, List.setIfInBounds_toArray, List.set_cons_zero, List.set_cons_succ])
      | (refine calm_plain (by rfl) (by rfl) ?_; apply Exists.intro; refine ⟨fun wc hC hD => ?_, ?_⟩; (focus (clear hD; obtain ⟨p0, p1, p2, p3, p4⟩ := hC.b5 List.mem_cons_self; obtain ⟨q0, q1, q2, q3, q4⟩ := hC.b5 (List.mem_cons_of_mem _ List.mem_cons_self); obtain ⟨s0, s1, s2, s3, s4⟩ := hC.b5 (List.mem_cons_of_mem _ (List.mem_cons_of_mem _ List.mem_cons_self)); obtain ⟨u0, u1⟩ := hC.b2 (List.mem_cons_of_mem _ (List.mem_cons_of_mem _ (List.mem_cons_of_mem _ List.mem_cons_self))); obtain ⟨d0, d1⟩ := hC.b2 (List.mem_cons_of_mem _ (List.mem_cons_of_mem _ (List.mem_cons_of_mem _ (List.mem_cons_of_mem _ List.mem_cons_self)))); clear hC; go_simp; first | done | with_reducible rfl)); try simp only [Act.put, List.setIfInBounds_toArray, List.set_cons_zero, List.set_cons_succ]))
    refine calm_end ?_
    intro w89 hL7 hF7
    clear hF7
    replace HF := Lib.hid hL7
    clear hL7
    go_wp2
    go_ret
    exact ⟨rfl, HF.out.bel⟩



theorem laidOut : laidOutB Tryz.prog = true := by kernel_rfl
theorem own : ownKnob Tryz.prog.godebug = none := by kernel_rfl
theorem rt : (Tryz.prog.cutTypes.find? (·.1 == "internal/reflectlite.rtype")).map (·.2) = some 163 := by kernel_rfl

theorem trodVars_len {H : Type} {enc : TypeId × Value → H} {P : Program} {w : World} {sp : Nat → Bool} : ∀ {ns : List String} {gs : List (DataW H)} {ps : List MemPlace}, DataW.TrodVars enc P w sp ns gs ps → gs.length = ns.length
  | [], [], _, _ => rfl
  | [], _ :: _, _, h => h.elim
  | _ :: _, [], _, h => h.elim
  | n :: ns, d :: ds, ps, h => by
    obtain ⟨g, t, cs, fuel, p, q, h1, h2, h3, h4, hs, e⟩ := h
    simp only [List.length_cons, trodVars_len hs]

theorem gN : Tryz.prog.globalNamed "loop.example/g00576/impl.errNotRight" = some 0 := by kernel_rfl
theorem gH : Tryz.prog.globalNamed "loop.example/g00576/impl.errNoHead" = some 2 := by kernel_rfl
theorem gF : Tryz.prog.globalNamed "loop.example/g00576/impl.errFewer" = some 3 := by kernel_rfl
theorem gR : Tryz.prog.globalNamed "loop.example/g00576/impl.errNoRoom" = some 1 := by kernel_rfl
theorem gNT : (Tryz.prog.globals[0]?).map (·.type) = some 60 := by kernel_rfl
theorem gHT : (Tryz.prog.globals[2]?).map (·.type) = some 60 := by kernel_rfl
theorem gFT : (Tryz.prog.globals[3]?).map (·.type) = some 60 := by kernel_rfl
theorem gRT : (Tryz.prog.globals[1]?).map (·.type) = some 60 := by kernel_rfl
theorem cellsE : Tryz.prog.cellsOf 199 = 1 := by kernel_rfl
theorem cellsS : Tryz.prog.cellsOf 9 = 1 := by kernel_rfl
theorem star : "*" ++ "errors.errorString" = "*errors.errorString" := by decide
theorem rowE (u : TypeId) (h : Tryz.prog.typeName? 3 u = some "*errors.errorString") : u = 179 :=
  typeName_ptr_named (nm := "errors.errorString") (by rw [star]; kernel_rfl) (by kernel_rfl) (by decide) u (by rw [star]; exact h)

theorem pairA : (Rows.fnAreaTornRow.laid.filter fun x => x.1 == "loop.example/g00576/impl.errNotRight" || x.1 == "loop.example/g00576/impl.errNoRoom") = [("loop.example/g00576/impl.errNotRight", Rows.laid_loop_example_g00576_impl_errNotRight), ("loop.example/g00576/impl.errNoRoom", Rows.laid_loop_example_g00576_impl_errNoRoom)] := by kernel_rfl
theorem pairB : (Rows.fnAreaTornRow.laid.filter fun x => x.1 == "loop.example/g00576/impl.errNoHead" || x.1 == "loop.example/g00576/impl.errFewer") = [("loop.example/g00576/impl.errNoHead", Rows.laid_loop_example_g00576_impl_errNoHead), ("loop.example/g00576/impl.errFewer", Rows.laid_loop_example_g00576_impl_errFewer)] := by kernel_rfl
/-- What the condition gives a walk: the four errors. -/
theorem sents_of_laid {W : World} (h : laidMetH Tryz.prog Rows.fnAreaTornRow.laid W) : ∃ a0 a1 a2 a3, Sents W a0 a1 a2 a3 := by
  have hA := laidMetH.filter (fun x => x.1 == "loop.example/g00576/impl.errNotRight" || x.1 == "loop.example/g00576/impl.errNoRoom") h
  have hB := laidMetH.filter (fun x => x.1 == "loop.example/g00576/impl.errNoHead" || x.1 == "loop.example/g00576/impl.errFewer") h
  rw [pairA, Go.MakeChecks.laidMetH_plain _ _ _ (by rfl)] at hA
  rw [pairB, Go.MakeChecks.laidMetH_plain _ _ _ (by rfl)] at hB
  obtain ⟨a0, a3, s0, s3, c0, c3, t0, t3, hv0, hv3, hc0, hs0, hz0, hc3, hs3, hz3, hn03, hb0, hb3⟩ := laid_sentinels2 hA gN gNT gR gRT Tryz.underlying60 rowE Tryz.underlying179 Tryz.underlying199 rfl rfl Tryz.underlying9 cellsE cellsS
  obtain ⟨a1, a2, s1, s2, c1, c2, t1, t2, hv1, hv2, hc1, hs1, hz1, hc2, hs2, hz2, hn12, hb1, hb2⟩ := laid_sentinels2 hB gH gHT gF gFT Tryz.underlying60 rowE Tryz.underlying179 Tryz.underlying199 rfl rfl Tryz.underlying9 cellsE cellsS
  have ne : ∀ {a b : Addr} {s t : ByteArray}, W.cell? a = some (.string s) → W.cell? b = some (.string t) → s.data.toList ≠ t.data.toList → a ≠ b := fun h1 h2 hn e => by
    subst e
    rw [h1] at h2
    injection h2 with h2
    injection h2 with h2
    exact hn (by rw [h2])
  have k0 : W.cell? ⟨0, 0, none⟩ = some (.iface 179 (.pointer (some a0))) := by simpa using World.var?_cell gN hv0 0
  have k1 : W.cell? ⟨2, 0, none⟩ = some (.iface 179 (.pointer (some a1))) := by simpa using World.var?_cell gH hv1 0
  have k2 : W.cell? ⟨3, 0, none⟩ = some (.iface 179 (.pointer (some a2))) := by simpa using World.var?_cell gF hv2 0
  have k3 : W.cell? ⟨1, 0, none⟩ = some (.iface 179 (.pointer (some a3))) := by simpa using World.var?_cell gR hv3 0
  exact ⟨a0, a1, a2, a3, ⟨k0, _, _, hb0⟩, ⟨k1, _, _, hb1⟩, ⟨k2, _, _, hb2⟩, ⟨k3, _, _, hb3⟩,
    ne hc1 hc0 (by rw [hs1, hs0]; decide), ne hc2 hc0 (by rw [hs2, hs0]; decide), hn03.symm, hn12.symm, ne hc3 hc1 (by rw [hs3, hs1]; decide), ne hc3 hc2 (by rw [hs3, hs2]; decide)⟩

theorem et : Tryz.prog.globalNamed "errors.errorType" = some 4 := by kernel_rfl
theorem tsize : Tryz.prog.types.size = 211 := by kernel_rfl
theorem oneRow : ((List.range 211).filter fun t => Tryz.prog.rowNamed t [101, 114, 114, 111, 114]) = [60] := by kernel_rfl
/-- What the condition gives a walk: the variable's one cell. -/
theorem handle_of_laid {W : World} (h : laidMetH Tryz.prog Rows.fnAreaTornRow.laid W) : ErrVar W := by
  obtain ⟨_, h2⟩ := h
  obtain ⟨name, u, ty, e1, e2, e3, e4, e5⟩ := h2 ("errors.errorType", Rows.laid_errors_errorType) List.mem_cons_self
  have en : name = [101, 114, 114, 111, 114] := (Option.some.inj e1).symm
  subst en
  obtain rfl := Option.some.inj (rt.symm.trans e2)
  have hm : ty ∈ (List.range 211).filter fun t => Tryz.prog.rowNamed t [101, 114, 114, 111, 114] := List.mem_filter.2 ⟨List.mem_range.2 (by rw [← tsize]; exact e3), e4⟩
  rw [oneRow] at hm
  obtain rfl := List.mem_singleton.1 hm
  have hh : typeHandle Tryz.prog 60 = .pointer (some ⟨5, 60, none⟩) := by kernel_rfl
  rw [hh] at e5
  unfold ErrVar
  simpa using World.var?_cell et e5 0

def textOf (l : List UInt8) : ByteArray := ⟨l.toArray⟩
noncomputable def low : Nat := (World.holding Tryz.prog default ⟨#[], #[], []⟩).heap.size
/-- A world that meets the condition: the settled one, the variables' cells laid. -/
noncomputable def laidWorld (os : Os) : World :=
  let w0 := World.holding Tryz.prog os ⟨#[.cells #[.string (textOf [97, 114, 101, 97, 58, 32, 116, 104, 101, 32, 100, 105, 115, 107, 32, 105, 115, 32, 110, 111, 116, 32, 114, 105, 103, 104, 116])] 199, .cells #[.string (textOf [97, 114, 101, 97, 58, 32, 116, 104, 101, 32, 102, 105, 114, 115, 116, 32, 115, 101, 99, 116, 111, 114, 32, 104, 97, 115, 32, 110, 111, 32, 104, 101, 97, 100, 32, 111, 102, 32, 116, 104, 105, 115, 32, 100, 105, 115, 107])] 199, .cells #[.string (textOf [97, 114, 101, 97, 58, 32, 97, 32, 115, 101, 99, 116, 111, 114, 32, 104, 97, 115, 32, 102, 101, 119, 101, 114, 32, 98, 121, 116, 101, 115, 32, 116, 104, 97, 110, 32, 105, 116, 115, 32, 112, 97, 114, 116, 32, 111, 102, 32, 116, 104, 101, 32, 116, 101, 120, 116])] 199, .cells #[.string (textOf [97, 114, 101, 97, 58, 32, 116, 104, 101, 114, 101, 32, 105, 115, 32, 110, 111, 32, 114, 111, 111, 109, 32, 102, 111, 114, 32, 116, 104, 101, 32, 116, 101, 120, 116, 44, 32, 111, 114, 32, 110, 111, 32, 110, 117, 109, 98, 101, 114])] 199], #[], []⟩
  let lay (w : World) (g : Nat) (v : Value) : World := { w with heap := w.heap.modify g fun
      | .cells _ t frozen => .cells #[v] t frozen
      | o => o }
  lay (lay (lay (lay (lay w0 0 (.iface 179 (.pointer (some ⟨low, 0, none⟩)))) 2 (.iface 179 (.pointer (some ⟨low + 1, 0, none⟩)))) 3 (.iface 179 (.pointer (some ⟨low + 2, 0, none⟩)))) 1 (.iface 179 (.pointer (some ⟨low + 3, 0, none⟩)))) 4 (.iface 163 (.agg #[.pointer (some ⟨5, 60, none⟩)]))
theorem laidWorld_met (os : Os) (args : Array Value) : laidMetH Tryz.prog Rows.fnAreaTornRow.laid ((laidWorld os).forCall (fun _ _ => 0) ⟨#[], args, []⟩).memory :=
  laidMetH_of_parts (laidMet_of_run (ps := [.cell 0 0, .cell low 0, .cell 2 0, .cell (low + 1) 0, .cell 3 0, .cell (low + 2) 0, .cell 1 0, .cell (low + 3) 0]) 8 (by kernel_rfl) (by kernel_rfl) (by kernel_rfl)) (by kernel_rfl)

set_option maxRecDepth 100000 in
theorem lifted (os : Os) (started : os.Started) (H : Type) (enc : TypeId × Value → H) :
    ReturnsInHanded {} Tryz.checked os 4 .any (fun w args => (Rows.fnAreaTornSpec.pre enc Tryz.prog Tryz.f4 [] false w args ∧ laidMetH Tryz.prog Rows.fnAreaTornRow.laid w) ∧ sizedMet enc Tryz.prog Tryz.f4 (OpenSpec.ofChange Rows.fnAreaTornSpec) false w args)
      (Rows.fnAreaTornSpec.post enc Tryz.prog Tryz.f4 false true false false) := by
  refine returnsInHanded_of_change_and (C := Tryz.checked) (X := fun w _ => laidMetH Tryz.prog Rows.fnAreaTornRow.laid w) (fun _ _ _ hh h => h.of_heap hh) own started (by kernel_rfl) Tryz.func4
    (ChangeSpec.witness_at (enc := enc) (C := Tryz.checked) (os := os) (X := fun w _ => laidMetH Tryz.prog Rows.fnAreaTornRow.laid w) false (laidWorld os) #[.slice none 0 0, .slice none 0 0] 8 rfl (by kernel_rfl) (by kernel_rfl) (by kernel_rfl) (by kernel_rfl) (by kernel_rfl) (laidWorld_met os _)) ?_
  intro W base args ds gs before hval0 hW _ _ hL _
  have hval : ∀ (j : Nat) t v, Tryz.f4.params[j]? = some t → args[j]? = some v → Value.okWide Tryz.prog W .any base t v := hval0
  have hW' := hW
  obtain ⟨p, q, hA0, hV0, rfl, hfz, hnd⟩ := hW
  have hA : DataW.TrodAll enc Tryz.prog W 0 (fun _ => true) true Tryz.f4.params.toList args.toList ds p := hA0
  rw [Tryz.params4] at hA hval
  obtain ⟨v0, vs0, d0, ds0, p0, q0, hargs, rfl, rfl, h0, r0⟩ := trodAll_cons hA
  obtain ⟨v1, vs1, d1, ds1, p1, q1, rfl, rfl, rfl, h1, r1⟩ := trodAll_cons r0
  obtain ⟨rfl, rfl, rfl⟩ := trodAll_nil r1
  obtain rfl : args = #[v0, v1] := by cases args; simp_all
  obtain ⟨a0, len0, cap0, rfl⟩ := okWide_slice Tryz.underlying22 (hval 0 22 v0 rfl rfl)
  have k0 := h0
  have lt0 : ∀ x ∈ p0, x.block < W.heap.size := by obtain ⟨m, hm⟩ := k0; exact DataW.trod_lt m _ _ _ hm
  obtain ⟨z0, w0⟩ : ∃ zs, IsRow .u8 W a0 len0 cap0 zs := by
    obtain ⟨fuel, hf⟩ := h0
    rcases open_ints Tryz.underlying22 Tryz.underlying5 (by kernel_rfl) hf with ⟨hcs, _⟩ | ⟨x, l, c, zs, hcs, _, hl, hm, hz, _, hcell, hwz⟩
    · simp [Value.cells] at hcs
      obtain ⟨rfl, rfl, rfl⟩ := hcs
      exact ⟨[], .inl ⟨rfl, rfl, rfl, rfl⟩⟩
    · simp [Value.cells] at hcs
      obtain ⟨rfl, rfl, rfl⟩ := hcs
      exact ⟨zs, .inr ⟨_, rfl, hl, hm, by simpa using hz, hcell, hwz⟩⟩
  obtain ⟨a1, len1, cap1, rfl⟩ := okWide_slice Tryz.underlying22 (hval 1 22 v1 rfl rfl)
  have k1 := h1
  have lt1 : ∀ x ∈ p1, x.block < W.heap.size := by obtain ⟨m, hm⟩ := k1; exact DataW.trod_lt m _ _ _ hm
  obtain ⟨z1, w1⟩ : ∃ zs, IsRow .u8 W a1 len1 cap1 zs := by
    obtain ⟨fuel, hf⟩ := h1
    rcases open_ints Tryz.underlying22 Tryz.underlying5 (by kernel_rfl) hf with ⟨hcs, _⟩ | ⟨x, l, c, zs, hcs, _, hl, hm, hz, _, hcell, hwz⟩
    · simp [Value.cells] at hcs
      obtain ⟨rfl, rfl, rfl⟩ := hcs
      exact ⟨[], .inl ⟨rfl, rfl, rfl, rfl⟩⟩
    · simp [Value.cells] at hcs
      obtain ⟨rfl, rfl, rfl⟩ := hcs
      exact ⟨zs, .inr ⟨_, rfl, hl, hm, by simpa using hz, hcell, hwz⟩⟩
  obtain ⟨e0, e1, e2, e3, hS⟩ := sents_of_laid hL
  have hV : DataW.TrodVars enc Tryz.prog W (fun _ => true) ["loop.example/g00576/impl.errNoRoom", "loop.example/g00576/impl.errNotRight", "loop.example/g00576/impl.errNoHead", "loop.example/g00576/impl.errFewer"] gs q := hV0
  obtain ⟨g1, g2, g3, g4, rfl⟩ : ∃ g1 g2 g3 g4, gs = [g1, g2, g3, g4] := by
    have hl := trodVars_len hV
    match gs, hl with
    | [g1, g2, g3, g4], _ => exact ⟨g1, g2, g3, g4, rfl⟩
  clear hA0 hval0
  refine (walk a0 len0 cap0 z0 a1 len1 cap1 z1 W w0 w1 hS (handle_of_laid hL)).mono fun e W' ⟨he, bel⟩ => ?_
  subst he
  exact ⟨_, rfl, _, _, _, [], _, _, hW', trodAll_mk1 (shut_bool Tryz.underlying4 _), (trodAll_cons_mk (Below.trod laidOut (by kernel_rfl) (of_decide_eq_true (by kernel_rfl)) k0 bel lt0) (trodAll_cons_mk (Below.trod laidOut (by kernel_rfl) (of_decide_eq_true (by kernel_rfl)) k1 bel lt1) trodAll_mk0)), Below.trodVars laidOut bel (by kernel_rfl) hV, bel.frame _, fun h => by cases h⟩

theorem row_holds : Rows.FnAreaTornSaid :=
  OpenClaim.holds_of_wide 4 Tryz.f4 rfl rfl rfl rfl rfl rfl rfl ⟨rfl, rfl, rfl, rfl, rfl⟩ rfl rfl rfl rfl rfl (by kernel_rfl) Tryz.func4 (by kernel_rfl)
    (of_decide_eq_true (by kernel_rfl)) (by unfold Func.isWrapper; first | (rw [if_pos (by decide +kernel)]; kernel_rfl) | (rw [if_neg (by decide +kernel)]; exact ⟨rfl, rfl⟩))
    (fun os started H enc _ => lifted os started H enc)

theorem proved : Rows.FnAreaTornCardSaid :=
  Claim7.holds_tied_plain_at .later [] [.handle, .sentinel, .sentinel, .sentinel, .sentinel] true (true, "3c2846797ac9bdd52fedd37de2e9d3bc39a28fdb2ae7ee818e80421f41634b43") true
    row_holds (fun _ h => by cases h) (by kernel_rfl) (fun _ h => by cases h) fnAreaTorn_row_tie rfl ⟨rfl, rfl⟩ (by kernel_rfl) rfl
    (fun f fn hf hfn => by
      obtain rfl : f = 4 := Option.some.inj ((show Tryz.prog.funcNamed "loop.example/g00576/laws.FnAreaTorn" = some 4 by kernel_rfl).symm.trans hf) |>.symm
      obtain rfl : fn = Tryz.f4 := (Option.some.inj (Tryz.func4.symm.trans hfn)).symm
      exact ⟨by kernel_rfl, fun j t ht => by
        rw [Tryz.params4] at ht
        have h3 : t ∈ [22, 22] := by
          match j, ht with
          | 0, ht => simp at ht; simp [← ht]
          | 1, ht => simp at ht; simp [← ht]
          | j + 2, ht => simp at ht
        simp only [List.mem_cons, List.not_mem_nil, or_false] at h3
        obtain rfl : t = 22 := by simpa using h3
        exact (show Tryz.prog.wantsStandIn 22 = false by kernel_rfl)⟩)
    (by kernel_rfl)
#print axioms proved

end Go.Proofs.YthchlfllcnlmjaaGreatDoor.FnAreaTorn
