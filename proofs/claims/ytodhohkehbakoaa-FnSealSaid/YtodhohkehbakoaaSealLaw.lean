/-
  Whatever bytes come in, the law FnSeal returns true: a drawn text is got back from its seal, with any one byte turned it is refused, a CRC goes on from text to text. No condition.
-/
import Derived.Test.YtodhohkehbakoaaRows
import Derived.Test.YtodhohkehbakoaaSealFacts
import Derived.Test.YtodhohkehbakoaaDrawSeal
import Derived.Test.YtodhohkehbakoaaRowIn
import Derived.Test.YtodhohkehbakoaaBytesOf
import Derived.WalkKit
import Derived.ProofKit
import Derived.OpenShut
import Derived.ShutString
import Derived.ChangeOld
import Derived.Below
import Derived.Lib.Hide
import Derived.Deep.RegionWith
import Derived.Deep.DeepCutAuto
namespace Go.Proofs.Ytodhohkehbakoaa.FnSeal
open Go.ChangeShapes Go.WideShapes Go.ChangeAt Go.RowKit
open Go.ChangeMaps (open_string shut_string)
set_option linter.unusedVariables false

theorem neq_string_ne {s : ByteArray} (h : 0 < s.size) : ¬ s.toList = [] := by
  intro e
  rw [ByteArray.toList_eq] at e
  have := ba_len s
  rw [e] at this
  simp at this
  omega

theorem xor_byte_ne (b : UInt8) (q : Int) (h0 : 0 ≤ q) (h1 : q < 255) : ∃ x : Nat, bits .xor .u8 (b.toNat : Int) (IntKind.u8.wrap (IntKind.i64.wrap (1 + q))) = (x : Int) ∧ x < 256 ∧ x ≠ b.toNat := by
  obtain ⟨n, rfl⟩ := Int.eq_ofNat_of_zero_le h0
  have e : IntKind.u8.wrap (IntKind.i64.wrap (1 + (n : Int))) = ((1 + n : Nat) : Int) := by
    rw [IntKind.wrap_i64, IntKind.wrap_u8']
    omega
  have hb := b.toNat_lt
  rw [e, u8_xor_nat b.toNat (1 + n) (by omega) (by omega)]
  refine ⟨_, rfl, Nat.xor_lt_two_pow (n := 8) (by omega) (by omega), fun h => ?_⟩
  have h2 : b.toNat ^^^ (1 + n) = b.toNat ^^^ 0 := by rw [Nat.xor_zero]; exact h
  have := xor_left_inj h2
  omega

set_option maxRecDepth 100000 in
set_option maxHeartbeats 4000000 in
theorem walk (a0 : Option Addr) (len0 cap0 : Nat) (z0 : List Int) (a1 : Option Addr) (len1 cap1 : Nat) (z1 : List Int) (w : World) (w0 : IsRow .u8 w a0 len0 cap0 z0) (w1 : IsRow .u8 w a1 len1 cap1 z1) :
    Calls Try.prog 3 #[.slice a0 len0 cap0, .slice a1 len1 cap1] w fun e w' => e = .returned (.bool true) ∧ Below w.heap.size w w' := by
  by_cases h0 : 1048576 < len0
  · have h0' : 1048576 < (len0 : Int) := by omega
    clear w0 w1 h0
    go_enter Try.func3, Try.ntmps3
    go_wp2
    go_ret
    exact ⟨rfl, Below.refl _ _⟩
  · by_cases h1 : 1048576 < len1
    · have h0' : ¬ 1048576 < (len0 : Int) := by omega
      have h1' : 1048576 < (len1 : Int) := by omega
      clear w0 w1 h0 h1
      go_enter Try.func3, Try.ntmps3
      go_wp2
      go_ret
      exact ⟨rfl, Below.refl _ _⟩
    · have h0' : ¬ 1048576 < (len0 : Int) := by omega
      have h1' : ¬ 1048576 < (len1 : Int) := by omega
      have HC0 := Lib.hid (w0.code (by omega))
      have HC1 := Lib.hid (w1.code (by omega))
      clear w0 w1 h0 h1
      go_enter Try.func3, Try.ntmps3
      go_wp2_with fail
      refine (draw_seal _ _ w HC0.out).mono ?_
      rintro e w2 ⟨t, rfl, ht, hb2⟩
      have HB2 := Lib.hid hb2; clear hb2
      by_cases hs : t.size ≤ 7996
      · go_wp2_with fail
        refine (impl_seal t _ hs).mono ?_
        rintro e w3 ⟨rfl, hb3⟩
        have HB3 := Lib.hid (below_call HB2.out HB2.out.size hb3); clear hb3
        go_wp2_with fail
        refine (spec_seal t _ hs).mono ?_
        rintro e w4 ⟨rfl, hb4⟩
        have HB4 := Lib.hid (below_call HB3.out HB3.out.size hb4); clear hb4
        have HZ := Lib.hid (sealB_size t)
        have HU := Lib.hid (unseal_seal t)
        have HT := Lib.hid (unseal_turned t)
        generalize sealB t = s at *
        have hsz : 0 < s.size := by rw [HZ.out]; omega
        have hne := neq_string_ne hsz
        have hsz2 : s.size ≤ 8000 := by rw [HZ.out]; omega
        have heq := beq_yes s
        have hne2 : s.toList.isEmpty = false := by
          cases h : s.toList with
          | nil => exact absurd h hne
          | cons => rfl
        obtain ⟨cap, R, kR, hkR, hR, hcv⟩ := bytes_of (P := Try.prog) w4 9 22 5 s Try.underlying9 Try.underlying22 Try.underlying5
        have HR := Lib.hid hR; clear hR
        go_wp2_with fail
        have HBK : Hid ((w4.alloc (.cells R 5 (kR, kR + 1))).drew.heap[w4.heap.size]? = _) := Lib.hid (heap_alloc_new w4 _)
        have HB5 : Hid (Below w.heap.size w (w4.alloc (.cells R 5 (kR, kR + 1))).drew) := Lib.hid (HB4.out.alloc HB4.out.size _).drew
        have hB4 := HB4.out.size
        generalize hB : w4.heap.size = B at *
        generalize (w4.alloc (.cells R 5 (kR, kR + 1))).drew = w5 at *
        clear hcv
        refine (law_at _ w.heap.size len1 0 s.size w5 (HC1.out.below HB5.out) (by omega) (by omega) (by omega) (by omega)).mono ?_
        rintro e w6 ⟨r, rfl, r1, r2, rfl⟩
        obtain ⟨p, rfl⟩ := Int.eq_ofNat_of_zero_le r1
        have hp : p < s.size := by omega
        have hpl : p < s.data.toList.length := by rw [ba_len]; exact hp
        have hc5 : w5.cell? ⟨B, p, none⟩ = some (.int .u8 (s.data.toList[p].toNat : Int)) := fz_cell HBK.out p _ (HR.out p _ (List.getElem?_eq_getElem hpl))
        have hf5 : w5.frozen? ⟨B, p, none⟩ = false := fz_free HBK.out p (by omega)
        have hx256 : (s.data.toList[p].toNat : Int) < 256 := by have := s.data.toList[p].toNat_lt; omega
        have hp' : (p : Int) < (s.size : Int) := by omega
        go_upto_region 10 with fail
        go_cut [35] (fun _ wx => ∃ (wy : World) (x : Nat), wy = wx ∧ x < 256 ∧ x ≠ s.data.toList[p].toNat ∧ wx.heap[B]? = some (.cells (R.setIfInBounds p (.int .u8 (x : Int))) 5 (kR, kR + 1)) ∧ Below w.heap.size w wx)
        case first =>
          go_region_with (go_at_call 7; refine (law_at _ w.heap.size len1 1 255 _ (by exact HC1.out.below HB5.out.drew) (by omega) (by omega) (by omega) (by omega)).mono ?_; rintro e w6 ⟨q, rfl, q1, q2, rfl⟩)
          all_goals
            have hw := xor_byte_ne s.data.toList[p] q q1 q2
            go_wp2_with fail
            go_meet
            obtain ⟨x, hx, x1, x2⟩ := hw
            refine ⟨_, x, rfl, x1, x2, ?_, (HB5.out.setCell (by exact hB4) _).drew⟩
            rw [← hx]
            exact fz_set HBK.out p _
        case rest =>
          obtain ⟨wx, x, rfl, x1, x2, hbk, hbw⟩ := hcut
          have hlen : (s.data.toList.set p (UInt8.ofNat x)).length = s.size := by rw [List.length_set, ba_len]
          have hUT := HT.out ⟨(s.data.toList.set p (UInt8.ofNat x)).toArray⟩ p (UInt8.ofNat x) (by rw [← HZ.out]; exact hp) (by simp) (by
            rw [List.getElem?_eq_getElem hpl]
            intro e
            have := congrArg UInt8.toNat (Option.some.inj e)
            rw [UInt8.toNat_ofNat_of_lt' (by simpa using x1)] at this
            exact x2 this.symm)
          have hcells : ∀ (i : Nat) (y : UInt8), (s.data.toList.set p (UInt8.ofNat x))[i]? = some y → (R.setIfInBounds p (.int .u8 (x : Int)))[i]? = some (bval y) := by
            intro i y hy
            have hi : i < s.data.toList.length := by
              have := (List.getElem?_eq_some_iff.1 hy).1
              simpa using this
            have hRi := HR.out i _ (List.getElem?_eq_getElem hi)
            by_cases e : p = i
            · subst e
              rw [List.getElem?_set_self hi] at hy
              rw [← Option.some.inj hy, bval_ofNat x x1]
              rw [Array.getElem?_setIfInBounds_self, if_pos (by
                rcases Nat.lt_or_ge p R.size with h | h
                · exact h
                · rw [Array.getElem?_eq_none h] at hRi; cases hRi)]
            · rw [List.getElem?_set_ne e, List.getElem?_eq_getElem hi] at hy
              rw [Array.getElem?_setIfInBounds_ne e, hRi]
              rw [Option.some.inj hy]
          have HCV : Hid (∀ W, Below wx.heap.size wx W → (convert 22 9 (.slice (some ⟨B, 0, none⟩) s.size cap)).run Try.prog W = .ok (.string ⟨(s.data.toList.set p (UInt8.ofNat x)).toArray⟩) W) := Lib.hid fun W hW =>
            string_of (P := Try.prog) ((hW.block B (block_lt hbk)).trans hbk) 22 5 9 Try.underlying22 Try.underlying5 Try.underlying9 _ s.size cap hlen hcells
          have hs4 : 4 ≤ s.size := by rw [HZ.out]; omega
          have hsz' : (ByteArray.mk (s.data.toList.set p (UInt8.ofNat x)).toArray).size = s.size := hlen
          generalize ByteArray.mk (s.data.toList.set p (UInt8.ofNat x)).toArray = s' at *
          have HUT := Lib.hid hUT
          have HI1 := Lib.hid (fun W => impl_unseal s W hs4 hsz2)
          have HI2 := Lib.hid (fun W => impl_unseal s' W (by omega) (by omega))
          rw [HU.out] at HI1
          rw [HUT.out] at HI2
          unfold textOut at HI1 HI2
          have HBW := Lib.hid hbw
          clear hUT hcells hbk hbw hlen hsz' hc5 hf5
          go_wp2_with fail
          refine (HI1.out _).mono ?_
          rintro e w7 ⟨rfl, hb7⟩
          have hcv2 := HCV.out w7 hb7
          have HB7 := Lib.hid (below_call HBW.out HBW.out.size hb7); clear hb7
          go_wp2_with fail
          refine (HI2.out _).mono ?_
          rintro e w8 ⟨rfl, hb8⟩
          have HBX := Lib.hid (below_call HB7.out HB7.out.size hb8); clear hb8 hcv2
          have hfield : ∀ W, (Instr.field 27 (.agg #[.string ⟨#[]⟩, .int .i64 0, .int .i64 5]) 2).run Try.prog W = .ok (.int .i64 5) W := fun _ => by kernel_rfl
          go_wp2_with fail
          have HCT := Lib.hid (HC1.out.below HBX.out)
          have HCU := Lib.hid (HCT.out.up HBX.out.size)
          refine (draw_crcmore _ len1 _ HCU.out).mono ?_
          rintro e y1 ⟨c, u, rfl, c1, c2, hu, hby⟩
          have HBY := Lib.hid (below_call HBX.out HBX.out.size hby); clear hby
          have hu2 : u.size ≤ 8000 := by omega
          by_cases hlong : 8000 < t.size + u.size
          · have hlong' : 8000 < (t.size : Int) + (u.size : Int) := by omega
            go_wp2
            go_ret
            exact ⟨rfl, HBY.out⟩
          · have hlong' : ¬ 8000 < (t.size : Int) + (u.size : Int) := by omega
            have ht8 : t.size ≤ 8000 := by omega
            have hct := crcOn_lt 0 t.data.toList (by omega)
            have HAP := Lib.hid (crcOn_append 0 t.data.toList u.data.toList)
            have HTU : Hid ((t ++ u).data.toList = t.data.toList ++ u.data.toList) := Lib.hid (by simp)
            have htu : (t ++ u).size ≤ 8000 := by rw [← ba_len, HTU.out, List.length_append, ba_len, ba_len]; omega
            have HBOTH : Hid (∃ r : Int, (∀ W, Calls Try.prog 10 #[.int .i64 c, .string u] W fun e w' => e = .returned (.int .i64 r) ∧ W = w') ∧ (∀ W, Calls Try.prog 11 #[.int .i64 c, .string u] W fun e w' => e = .returned (.int .i64 r) ∧ W = w')) := Lib.hid (by
              by_cases hc : 0 ≤ c ∧ c ≤ 4294967295
              · obtain ⟨cn, rfl⟩ := Int.eq_ofNat_of_zero_le hc.1
                exact ⟨_, fun W => impl_crcmore cn u W (by omega) hu2, fun W => spec_crcmore cn u W (by omega) hu2⟩
              · exact ⟨0, fun W => impl_crcmore_no c u W (by unfold maxLen; omega) (by omega), fun W => spec_crcmore_no c u W (by unfold maxLen; omega) (by omega)⟩)
            obtain ⟨r, HR1, HR2⟩ := HBOTH.out
            have HR1 := Lib.hid HR1
            have HR2 := Lib.hid HR2
            have HK1 := Lib.hid (fun W => impl_crc t W ht8)
            have HK2 := Lib.hid (fun W => impl_crcmore (crcOn 0 t.data.toList) u W hct hu2)
            have HK3 := Lib.hid (fun W => impl_crc (t ++ u) W htu)
            rw [← HAP.out] at HK2
            rw [HTU.out] at HK3
            generalize (crcOn 0 (t.data.toList ++ u.data.toList) : Nat) = z at *
            generalize (crcOn 0 t.data.toList : Nat) = y at *
            clear HBOTH
            go_wp2_with fail
            refine (HR1.out _).mono ?_
            rintro e w8 ⟨rfl, rfl⟩
            go_wp2_with fail
            refine (HR2.out _).mono ?_
            rintro e w8 ⟨rfl, rfl⟩
            go_wp2_with fail
            refine (HK1.out _).mono ?_
            rintro e w8 ⟨rfl, rfl⟩
            go_wp2_with fail
            refine (HK2.out _).mono ?_
            rintro e w8 ⟨rfl, rfl⟩
            go_wp2_with fail
            refine (HK3.out _).mono ?_
            rintro e w8 ⟨rfl, rfl⟩
            go_wp2
            go_ret
            exact ⟨rfl, HBY.out⟩
      · have hs' : 7996 < t.size := by omega
        have htm : t.size ≤ maxLen := by unfold maxLen; omega
        go_wp2_with fail
        refine (impl_seal_no t _ htm hs').mono ?_
        rintro e w3 ⟨rfl, rfl⟩
        go_wp2_with fail
        refine (spec_seal_no t _ htm hs').mono ?_
        rintro e w4 ⟨rfl, rfl⟩
        have HBX := HB2
        go_wp2_with fail
        have HCT := Lib.hid (HC1.out.below HBX.out)
        have HCU := Lib.hid (HCT.out.up HBX.out.size)
        refine (draw_crcmore _ len1 _ HCU.out).mono ?_
        rintro e y1 ⟨c, u, rfl, c1, c2, hu, hby⟩
        have HBY := Lib.hid (below_call HBX.out HBX.out.size hby); clear hby
        have hu2 : u.size ≤ 8000 := by omega
        by_cases hlong : 8000 < t.size + u.size
        · have hlong' : 8000 < (t.size : Int) + (u.size : Int) := by omega
          go_wp2
          go_ret
          exact ⟨rfl, HBY.out⟩
        · have hlong' : ¬ 8000 < (t.size : Int) + (u.size : Int) := by omega
          have ht8 : t.size ≤ 8000 := by omega
          have hct := crcOn_lt 0 t.data.toList (by omega)
          have HAP := Lib.hid (crcOn_append 0 t.data.toList u.data.toList)
          have HTU : Hid ((t ++ u).data.toList = t.data.toList ++ u.data.toList) := Lib.hid (by simp)
          have htu : (t ++ u).size ≤ 8000 := by rw [← ba_len, HTU.out, List.length_append, ba_len, ba_len]; omega
          have HBOTH : Hid (∃ r : Int, (∀ W, Calls Try.prog 10 #[.int .i64 c, .string u] W fun e w' => e = .returned (.int .i64 r) ∧ W = w') ∧ (∀ W, Calls Try.prog 11 #[.int .i64 c, .string u] W fun e w' => e = .returned (.int .i64 r) ∧ W = w')) := Lib.hid (by
            by_cases hc : 0 ≤ c ∧ c ≤ 4294967295
            · obtain ⟨cn, rfl⟩ := Int.eq_ofNat_of_zero_le hc.1
              exact ⟨_, fun W => impl_crcmore cn u W (by omega) hu2, fun W => spec_crcmore cn u W (by omega) hu2⟩
            · exact ⟨0, fun W => impl_crcmore_no c u W (by unfold maxLen; omega) (by omega), fun W => spec_crcmore_no c u W (by unfold maxLen; omega) (by omega)⟩)
          obtain ⟨r, HR1, HR2⟩ := HBOTH.out
          have HR1 := Lib.hid HR1
          have HR2 := Lib.hid HR2
          have HK1 := Lib.hid (fun W => impl_crc t W ht8)
          have HK2 := Lib.hid (fun W => impl_crcmore (crcOn 0 t.data.toList) u W hct hu2)
          have HK3 := Lib.hid (fun W => impl_crc (t ++ u) W htu)
          rw [← HAP.out] at HK2
          rw [HTU.out] at HK3
          generalize (crcOn 0 (t.data.toList ++ u.data.toList) : Nat) = z at *
          generalize (crcOn 0 t.data.toList : Nat) = y at *
          clear HBOTH
          go_wp2_with fail
          refine (HR1.out _).mono ?_
          rintro e w8 ⟨rfl, rfl⟩
          go_wp2_with fail
          refine (HR2.out _).mono ?_
          rintro e w8 ⟨rfl, rfl⟩
          go_wp2_with fail
          refine (HK1.out _).mono ?_
          rintro e w8 ⟨rfl, rfl⟩
          go_wp2_with fail
          refine (HK2.out _).mono ?_
          rintro e w8 ⟨rfl, rfl⟩
          go_wp2_with fail
          refine (HK3.out _).mono ?_
          rintro e w8 ⟨rfl, rfl⟩
          go_wp2
          go_ret
          exact ⟨rfl, HBY.out⟩

theorem laidOut : laidOutB Try.prog = true := by kernel_rfl
theorem own : ownKnob Try.prog.godebug = none := by kernel_rfl

set_option maxRecDepth 100000 in
theorem lifted (os : Os) (started : os.Started) (H : Type) (enc : TypeId × Value → H) :
    ReturnsInHanded {} Try.checked os 3 .any (Rows.fnSealSpec.pre6 enc Try.prog Try.f3 Rows.fnSealRow.domain false) (Rows.fnSealSpec.post enc Try.prog Try.f3 false true false false) := by
  refine returnsInHanded_of_change (C := Try.checked) own started (by kernel_rfl) Try.func3
    (ChangeSpec.witness6 (enc := enc) (C := Try.checked) false ⟨#[], #[.slice none 0 0, .slice none 0 0], []⟩ 8 (by kernel_rfl) (by kernel_rfl) (by kernel_rfl) (by kernel_rfl)) ?_
  intro W base args ds gs before hval0 hW hcnd _
  have hval : ∀ (j : Nat) t v, Try.f3.params[j]? = some t → args[j]? = some v → Value.okWide Try.prog W .any base t v := hval0
  have hW' := hW
  obtain ⟨p, q, hA0, hV, rfl, hfz, hnd⟩ := hW
  have hA : DataW.TrodAll enc Try.prog W 0 (fun _ => true) true Try.f3.params.toList args.toList ds p := hA0
  rw [Try.params3] at hA hval
  obtain ⟨v0, vs0, d0, ds0, p0, q0, hargs, rfl, rfl, h0, r0⟩ := trodAll_cons hA
  obtain ⟨v1, vs1, d1, ds1, p1, q1, rfl, rfl, rfl, h1, r1⟩ := trodAll_cons r0
  obtain ⟨rfl, rfl, rfl⟩ := trodAll_nil r1
  obtain rfl : args = #[v0, v1] := by cases args; simp_all
  obtain ⟨rfl, rfl⟩ := trodVars_none hV
  obtain ⟨a0, len0, cap0, rfl⟩ := okWide_slice Try.underlying22 (hval 0 22 v0 rfl rfl)
  have k0 := h0
  have lt0 : ∀ x ∈ p0, x.block < W.heap.size := by obtain ⟨m, hm⟩ := k0; exact DataW.trod_lt m _ _ _ hm
  obtain ⟨z0, w0⟩ : ∃ zs, IsRow .u8 W a0 len0 cap0 zs := by
    obtain ⟨fuel, hf⟩ := h0
    rcases open_ints Try.underlying22 Try.underlying5 (by kernel_rfl) hf with ⟨hcs, _⟩ | ⟨x, l, c, zs, hcs, _, hl, hm, hz, _, hcell, hwz⟩
    · simp [Value.cells] at hcs
      obtain ⟨rfl, rfl, rfl⟩ := hcs
      exact ⟨[], .inl ⟨rfl, rfl, rfl, rfl⟩⟩
    · simp [Value.cells] at hcs
      obtain ⟨rfl, rfl, rfl⟩ := hcs
      exact ⟨zs, .inr ⟨_, rfl, hl, hm, by simpa using hz, hcell, hwz⟩⟩
  obtain ⟨a1, len1, cap1, rfl⟩ := okWide_slice Try.underlying22 (hval 1 22 v1 rfl rfl)
  have k1 := h1
  have lt1 : ∀ x ∈ p1, x.block < W.heap.size := by obtain ⟨m, hm⟩ := k1; exact DataW.trod_lt m _ _ _ hm
  obtain ⟨z1, w1⟩ : ∃ zs, IsRow .u8 W a1 len1 cap1 zs := by
    obtain ⟨fuel, hf⟩ := h1
    rcases open_ints Try.underlying22 Try.underlying5 (by kernel_rfl) hf with ⟨hcs, _⟩ | ⟨x, l, c, zs, hcs, _, hl, hm, hz, _, hcell, hwz⟩
    · simp [Value.cells] at hcs
      obtain ⟨rfl, rfl, rfl⟩ := hcs
      exact ⟨[], .inl ⟨rfl, rfl, rfl, rfl⟩⟩
    · simp [Value.cells] at hcs
      obtain ⟨rfl, rfl, rfl⟩ := hcs
      exact ⟨zs, .inr ⟨_, rfl, hl, hm, by simpa using hz, hcell, hwz⟩⟩
  clear hA0 hval0
  simp only [List.append_nil] at hW'
  refine (walk a0 len0 cap0 z0 a1 len1 cap1 z1 W w0 w1).mono fun e W' ⟨he, bel⟩ => ?_
  subst he
  exact ⟨_, rfl, _, _, _, [], _, [], hW', trodAll_mk1 (shut_bool Try.underlying4 _), (trodAll_cons_mk (Below.trod laidOut (by kernel_rfl) (of_decide_eq_true (by kernel_rfl)) k0 bel lt0) (trodAll_cons_mk (Below.trod laidOut (by kernel_rfl) (of_decide_eq_true (by kernel_rfl)) k1 bel lt1) trodAll_mk0)), rfl, bel.frame _, fun h => by cases h⟩

theorem over : Rows.fnSealRow.holds Try.pinned (OpenSpec.ofChange Rows.fnSealSpec) :=
  OpenClaim.holds_of_wide 3 Try.f3 rfl rfl rfl rfl rfl rfl rfl ⟨rfl, rfl, rfl, rfl, rfl⟩ rfl rfl rfl rfl rfl (by kernel_rfl) Try.func3 (by kernel_rfl)
    (of_decide_eq_true (by kernel_rfl)) (by unfold Func.isWrapper; first | (rw [if_pos (by decide +kernel)]; kernel_rfl) | (rw [if_neg (by decide +kernel)]; exact ⟨rfl, rfl⟩))
    (fun os started H enc _ => lifted os started H enc)

theorem proved : Rows.FnSealSaid := over
#print axioms proved
end Go.Proofs.Ytodhohkehbakoaa.FnSeal
