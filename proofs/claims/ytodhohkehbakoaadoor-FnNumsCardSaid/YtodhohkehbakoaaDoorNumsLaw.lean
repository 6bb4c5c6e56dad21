/-
  Whatever bytes come in, the law FnNums returns true: a drawn number, or text, is got back from its bytes, with the place behind it; of bytes that end too early nothing is got. The listed variable errors.errorType holds what the program's text lays it with (the card ties it).
-/
import Derived.Test.YtodhohkehbakoaaDoorRows
import Derived.Test.YtodhohkehbakoaaDoorTie
import Derived.Test.YtodhohkehbakoaaDoorCards
import Derived.Test.YtodhohkehbakoaaDoorMathH
import Derived.Test.YtodhohkehbakoaaDoorGetNum
import Derived.Test.YtodhohkehbakoaaDoorGetTextA
import Derived.Test.YtodhohkehbakoaaDoorDrawNum
import Derived.Test.YtodhohkehbakoaaDoorRowIn
import Derived.WalkKit
import Derived.ProofKit
import Derived.OpenShut
import Derived.ShutString
import Derived.ChangeOld
import Derived.Below
import Derived.Lib.Hide
import Derived.ChangeSame
import Derived.ChangeVars
import Derived.JoinedOf
import Derived.RowKit
import Derived.RowKitTokens
import Derived.LaidLaws
import Derived.LaidHandle
import Derived.Stop.Joined
import Derived.SevenTiedAt
namespace Go.Proofs.YtodhohkehbakoaaDoor.FnNums
open Go.ChangeShapes Go.WideShapes Go.ChangeAt Go.RowKit
open Go.ChangeMaps (open_string shut_string)
set_option linter.unusedVariables false

set_option maxRecDepth 100000 in
set_option maxHeartbeats 4000000 in
theorem walk (a0 : Option Addr) (len0 cap0 : Nat) (z0 : List Int) (a1 : Option Addr) (len1 cap1 : Nat) (z1 : List Int) (w : World) (w0 : IsRow .u8 w a0 len0 cap0 z0) (w1 : IsRow .u8 w a1 len1 cap1 z1) (hv : ErrVar w) :
    Calls Tryd.prog 3 #[.slice a0 len0 cap0, .slice a1 len1 cap1] w fun e w' => e = .returned (.bool true) ∧ Below w.heap.size w w' := by
  by_cases h0 : 1048576 < len0
  · have h0' : 1048576 < (len0 : Int) := by omega
    clear w0 w1 h0
    go_enter Tryd.func3, Tryd.ntmps3
    go_wp2
    go_ret
    exact ⟨rfl, Below.refl _ _⟩
  · by_cases h1 : 1048576 < len1
    · have h0' : ¬ 1048576 < (len0 : Int) := by omega
      have h1' : 1048576 < (len1 : Int) := by omega
      clear w0 w1 h0 h1
      go_enter Tryd.func3, Tryd.ntmps3
      go_wp2
      go_ret
      exact ⟨rfl, Below.refl _ _⟩
    · have h0' : ¬ 1048576 < (len0 : Int) := by omega
      have h1' : ¬ 1048576 < (len1 : Int) := by omega
      have HC0 := Lib.hid (w0.code (by omega))
      have HC1 := Lib.hid (w1.code (by omega))
      have HV := Lib.hid hv
      clear w0 w1 h0 h1 hv
      go_enter Tryd.func3, Tryd.ntmps3
      go_wp2_with fail
      refine (draw_putnum _ _ w HC0.out).mono ?_
      rintro e w2 ⟨n, rfl, n1, n2, hb2⟩
      have HB2 := Lib.hid hb2; clear hb2
      have hl := putNum_length n
      go_wp2_with fail
      refine (impl_putnum n _ n1 n2).mono ?_
      rintro e w3 ⟨rfl, hb3⟩
      have HB3 := Lib.hid (below_call HB2.out HB2.out.size hb3); clear hb3
      go_wp2_with fail
      refine (spec_putnum n _ n1 n2).mono ?_
      rintro e w4 ⟨rfl, hb4⟩
      have HB4 := Lib.hid (below_call HB3.out HB3.out.size hb4); clear hb4
      obtain ⟨t, ht⟩ : ∃ t : ByteArray, t = ⟨(putNum n).toArray⟩ := ⟨_, rfl⟩
      have HT : Hid (t.data.toList = putNum n) := Lib.hid (by rw [ht])
      have hts : t.size = (putNum n).length := by rw [ht]; rfl
      rw [← ht]
      clear ht
      have ht1 : ¬ (t.size : Int) < 1 := by omega
      have ht2 : ¬ 10 < (t.size : Int) := by omega
      have ht10 : t.size ≤ 10 := by omega
      have HTS := Lib.hid hts; clear hts hl
      have HS1 : Hid ((⟨#[120, 121]⟩ ++ t ++ ⟨#[122]⟩ : ByteArray).data.toList = [120, 121] ++ t.data.toList ++ [122]) := Lib.hid (by simp)
      have hs1z : (⟨#[120, 121]⟩ ++ t ++ ⟨#[122]⟩ : ByteArray).size = t.size + 3 := by
        rw [← ba_len2, HS1.out, List.length_append, List.length_append, ba_len2]
        simp
        omega
      have hg1 : getNum (⟨#[120, 121]⟩ ++ t ++ ⟨#[122]⟩ : ByteArray) 2 = (n, (t.size : Int) + 2, 0) := by
        have := getNum_back (⟨#[120, 121]⟩ ++ t ++ ⟨#[122]⟩ : ByteArray) 2 n [122] (by omega) n1 n2 (by rw [HS1.out, HT.out]; rfl)
        rw [← HTS.out] at this
        refine this.trans ?_
        simp only [Prod.mk.injEq, true_and, and_true]
        omega
      have HG1 := Lib.hid (fun W hW => impl_getnum (⟨#[120, 121]⟩ ++ t ++ ⟨#[122]⟩ : ByteArray) 2 W (by unfold maxLen; omega) hW)
      rw [hg1] at HG1
      have hx2 : (t.extract 0 (t.size - 1)).data.toList = (putNum n).dropLast := by
        rw [Lib.extract_data, ← HT.out, List.dropLast_eq_take, ba_len2]
        simp
      have hx2z : (t.extract 0 (t.size - 1)).size ≤ 10 := by
        rw [← ba_len2, hx2, List.length_dropLast, ← HTS.out]
        omega
      have hg2 : getNum (t.extract 0 (t.size - 1)) 0 = (0, 0, 4) := getNum_cut _ 0 n (by omega) (by simpa using hx2)
      have HG2 := Lib.hid (fun W hW => impl_getnum (t.extract 0 (t.size - 1)) 0 W (by unfold maxLen; omega) hW)
      rw [hg2] at HG2
      unfold numOut at HG1 HG2
      have hfield : ∀ W, (Instr.field 26 (.agg #[.int .i64 0, .int .i64 0, .int .i64 4]) 2).run Tryd.prog W = .ok (.int .i64 4) W := fun _ => by kernel_rfl
      have HX2 := Lib.hid hx2
      clear hx2 hg1 hg2 hs1z
      go_wp2_with fail
      refine (HG1.out _ (errVar_on HV.out HB4.out)).mono ?_
      rintro e w5 ⟨rfl, hb5⟩
      have HB5 := Lib.hid (below_call HB4.out HB4.out.size hb5); clear hb5
      go_wp2_with fail
      refine (HG2.out _ (errVar_alloc (errVar_on HV.out HB5.out) _)).mono ?_
      rintro e w6 ⟨rfl, hb6⟩
      have HB6 := Lib.hid (below_alloc_call HB5.out HB5.out.size hb6); clear hb6 HG1 HG2
      go_wp2_with fail
      refine (draw_puttext _ len1 _ ((HC1.out.below HB6.out).up HB6.out.size)).mono ?_
      rintro e w7 ⟨u, rfl, hu, hb7⟩
      have HB7 := Lib.hid (below_call HB6.out HB6.out.size hb7); clear hb7 hfield
      by_cases hu8 : u.size ≤ 8000
      · go_wp2_with fail
        refine (impl_puttext u _ hu8).mono ?_
        rintro e w8 ⟨rfl, hb8⟩
        have HB8 := Lib.hid (below_call HB7.out HB7.out.size hb8); clear hb8
        go_wp2_with fail
        refine (spec_puttext u _ hu8).mono ?_
        rintro e w9 ⟨rfl, hb9⟩
        have HB9 := Lib.hid (below_call HB8.out HB8.out.size hb9); clear hb9
        have hq1 := (putNum_length u.size).1
        have HQ := Lib.hid (putTextB_list u)
        have HQZ := Lib.hid (putTextB_size u)
        have HBACK := Lib.hid (fun s p => getText_back s u p)
        have hqz : 1 ≤ (putTextB u).size := by rw [HQZ.out]; omega
        generalize putTextB u = q at *
        have hqne : q.toList.isEmpty = false := by
          cases h : q.toList with
          | nil =>
            rw [ByteArray.toList_eq] at h
            have := ba_len2 q
            rw [h] at this
            simp at this
            omega
          | cons => rfl
        clear hq1
        by_cases hbig : 8000 < q.size + 1
        · have hqm : q.size ≤ 9000 := by
            have := (putNum_length u.size).2
            rw [HQZ.out]
            omega
          have hbig' : 8000 < (q.size : Int) + 1 := by omega
          go_wp2
          go_ret
          exact ⟨rfl, HB9.out⟩
        · have hbig' : ¬ 8000 < (q.size : Int) + 1 := by omega
          have HS1 : Hid ((⟨#[120]⟩ ++ q : ByteArray).data.toList = [120] ++ q.data.toList) := Lib.hid (by simp)
          have hs1z : (⟨#[120]⟩ ++ q : ByteArray).size = q.size + 1 := by
            rw [← ba_len2, HS1.out, List.length_append, ba_len2]
            simp
            omega
          have hg1 : getText (⟨#[120]⟩ ++ q : ByteArray) 1 = (u, (q.size : Int) + 1, 0) := by
            have := HBACK.out (⟨#[120]⟩ ++ q : ByteArray) 1 (by omega) hu8 (by rw [HS1.out, ← HQ.out]; rfl)
            refine this.trans ?_
            simp only [Prod.mk.injEq, true_and, and_true]
            omega
          have HG1 := Lib.hid (fun W hW => impl_gettext (⟨#[120]⟩ ++ q : ByteArray) 1 (by unfold maxLen; omega) W hW)
          rw [hg1] at HG1
          have hx2 : (q.extract 0 (q.size - 1)).data.toList = (putNum u.size ++ u.data.toList).dropLast := by
            rw [Lib.extract_data, ← HQ.out, List.dropLast_eq_take, ba_len2]
            simp
          have hx2z : (q.extract 0 (q.size - 1)).size ≤ 8000 := by
            rw [← ba_len2, hx2, List.length_dropLast, ← HQ.out, ba_len2]
            omega
          have hg2 := getText_cut (q.extract 0 (q.size - 1)) u hx2z hu8 hx2
          have HG2 := Lib.hid (fun W hW => impl_gettext (q.extract 0 (q.size - 1)) 0 (by unfold maxLen; omega) W hW)
          rw [hg2] at HG2
          unfold textOut3 at HG1 HG2
          have hfield : ∀ W, (Instr.field 31 (.agg #[.string ⟨#[]⟩, .int .i64 0, .int .i64 4]) 2).run Tryd.prog W = .ok (.int .i64 4) W := fun _ => by kernel_rfl
          clear hx2 hg1 hg2 hs1z HBACK
          go_wp2_with fail
          refine (HG1.out _ (errVar_on HV.out HB9.out)).mono ?_
          rintro e y1 ⟨rfl, hc1⟩
          have HC9 := Lib.hid (below_call HB9.out HB9.out.size hc1); clear hc1
          go_wp2_with fail
          refine (HG2.out _ (errVar_on HV.out HC9.out)).mono ?_
          rintro e y2 ⟨rfl, hc2⟩
          have HC8 := Lib.hid (below_call HC9.out HC9.out.size hc2); clear hc2
          go_wp2
          go_ret
          exact ⟨rfl, HC8.out⟩
      · have hu9 : 8000 < u.size := by omega
        have hum : u.size ≤ maxLen := by unfold maxLen; omega
        go_wp2_with fail
        refine (impl_puttext_no u _ hum hu9).mono ?_
        rintro e w8 ⟨rfl, rfl⟩
        go_wp2_with fail
        refine (spec_puttext_no u _ hum hu9).mono ?_
        rintro e w9 ⟨rfl, rfl⟩
        go_wp2_with fail
        refine (spec_puttext_no u _ hum hu9).mono ?_
        rintro e w9 ⟨rfl, rfl⟩
        go_wp2
        go_ret
        exact ⟨rfl, HB7.out⟩

theorem laidOut : laidOutB Tryd.prog = true := by kernel_rfl
theorem own : ownKnob Tryd.prog.godebug = none := by kernel_rfl
theorem et : Tryd.prog.globalNamed "errors.errorType" = some 0 := by kernel_rfl
theorem rt : (Tryd.prog.cutTypes.find? (·.1 == "internal/reflectlite.rtype")).map (·.2) = some 74 := by kernel_rfl
theorem tsize : Tryd.prog.types.size = 117 := by kernel_rfl
theorem oneRow : ((List.range 117).filter fun t => Tryd.prog.rowNamed t [101, 114, 114, 111, 114]) = [42] := by kernel_rfl

/-- What the condition gives a walk: the variable's one cell. -/
theorem handle_of_laid {W : World} (h : laidMetH Tryd.prog Rows.fnNumsRow.laid W) : ErrVar W := by
  have h' : laidMet Tryd.prog [] W ∧ handlesMet Tryd.prog Rows.fnNumsRow.laid W := h
  obtain ⟨name, u, ty, e1, e2, e3, e4, e5⟩ := h'.2 _ (List.mem_singleton.2 rfl)
  have en : name = [101, 114, 114, 111, 114] := (Option.some.inj e1).symm
  subst en
  obtain rfl := Option.some.inj (rt.symm.trans e2)
  have hm : ty ∈ (List.range 117).filter fun t => Tryd.prog.rowNamed t [101, 114, 114, 111, 114] := List.mem_filter.2 ⟨List.mem_range.2 (by rw [← tsize]; exact e3), e4⟩
  rw [oneRow] at hm
  obtain rfl := List.mem_singleton.1 hm
  have hh : typeHandle Tryd.prog 42 = .pointer (some ⟨1, 42, none⟩) := by kernel_rfl
  rw [hh] at e5
  unfold ErrVar
  simpa using World.var?_cell et e5 0

/-- A world that meets the condition: the settled one, the variable's cell laid. -/
noncomputable def laidWorld (os : Os) : World :=
  let w0 := World.holding Tryd.prog os ⟨#[], #[], []⟩
  { w0 with heap := w0.heap.modify 0 fun
      | .cells _ t frozen => .cells #[.iface 74 (.agg #[.pointer (some ⟨1, 42, none⟩)])] t frozen
      | o => o }
theorem laidWorld_met (os : Os) (args : Array Value) : laidMetH Tryd.prog Rows.fnNumsRow.laid ((laidWorld os).forCall (fun _ _ => 0) ⟨#[], args, []⟩).memory :=
  laidMetH_of_parts (laidMet_nil _ _) (by kernel_rfl)

set_option maxRecDepth 100000 in
theorem lifted (os : Os) (started : os.Started) (H : Type) (enc : TypeId × Value → H) :
    ReturnsInHanded {} Tryd.checked os 3 .any (fun w args => (Rows.fnNumsSpec.pre enc Tryd.prog Tryd.f3 [] false w args ∧ laidMetH Tryd.prog Rows.fnNumsRow.laid w) ∧ sizedMet enc Tryd.prog Tryd.f3 (OpenSpec.ofChange Rows.fnNumsSpec) false w args)
      (Rows.fnNumsSpec.post enc Tryd.prog Tryd.f3 false true false false) := by
  refine returnsInHanded_of_change_and (C := Tryd.checked) (X := fun w _ => laidMetH Tryd.prog Rows.fnNumsRow.laid w) (fun _ _ _ hh h => h.of_heap hh) own started (by kernel_rfl) Tryd.func3
    (ChangeSpec.witness_at (enc := enc) (C := Tryd.checked) (os := os) (X := fun w _ => laidMetH Tryd.prog Rows.fnNumsRow.laid w) false (laidWorld os) #[.slice none 0 0, .slice none 0 0] 8 rfl (by kernel_rfl) (by kernel_rfl) (by kernel_rfl) (by kernel_rfl) (by kernel_rfl) (laidWorld_met os _)) ?_
  intro W base args ds gs before hval0 hW _ _ hL _
  have hval : ∀ (j : Nat) t v, Tryd.f3.params[j]? = some t → args[j]? = some v → Value.okWide Tryd.prog W .any base t v := hval0
  have hW' := hW
  obtain ⟨p, q, hA0, hV0, rfl, hfz, hnd⟩ := hW
  have hA : DataW.TrodAll enc Tryd.prog W 0 (fun _ => true) true Tryd.f3.params.toList args.toList ds p := hA0
  have hV : DataW.TrodVars enc Tryd.prog W (fun _ => true) [] gs q := hV0
  rw [Tryd.params3] at hA hval
  obtain ⟨v0, vs0, d0, ds0, p0, q0, hargs, rfl, rfl, h0, r0⟩ := trodAll_cons hA
  obtain ⟨v1, vs1, d1, ds1, p1, q1, rfl, rfl, rfl, h1, r1⟩ := trodAll_cons r0
  obtain ⟨rfl, rfl, rfl⟩ := trodAll_nil r1
  obtain rfl : args = #[v0, v1] := by cases args; simp_all
  obtain ⟨rfl, rfl⟩ : gs = [] ∧ q = [] := by
    cases gs with
    | nil => exact ⟨rfl, hV⟩
    | cons g r => exact absurd hV (by intro h; cases h)
  obtain ⟨a0, len0, cap0, rfl⟩ := okWide_slice Tryd.underlying22 (hval 0 22 v0 rfl rfl)
  have k0 := h0
  have lt0 : ∀ x ∈ p0, x.block < W.heap.size := by obtain ⟨m, hm⟩ := k0; exact DataW.trod_lt m _ _ _ hm
  obtain ⟨z0, w0⟩ : ∃ zs, IsRow .u8 W a0 len0 cap0 zs := by
    obtain ⟨fuel, hf⟩ := h0
    rcases open_ints Tryd.underlying22 Tryd.underlying5 (by kernel_rfl) hf with ⟨hcs, _⟩ | ⟨x, l, c, zs, hcs, _, hl, hm, hz, _, hcell, hwz⟩
    · simp [Value.cells] at hcs
      obtain ⟨rfl, rfl, rfl⟩ := hcs
      exact ⟨[], .inl ⟨rfl, rfl, rfl, rfl⟩⟩
    · simp [Value.cells] at hcs
      obtain ⟨rfl, rfl, rfl⟩ := hcs
      exact ⟨zs, .inr ⟨_, rfl, hl, hm, by simpa using hz, hcell, hwz⟩⟩
  obtain ⟨a1, len1, cap1, rfl⟩ := okWide_slice Tryd.underlying22 (hval 1 22 v1 rfl rfl)
  have k1 := h1
  have lt1 : ∀ x ∈ p1, x.block < W.heap.size := by obtain ⟨m, hm⟩ := k1; exact DataW.trod_lt m _ _ _ hm
  obtain ⟨z1, w1⟩ : ∃ zs, IsRow .u8 W a1 len1 cap1 zs := by
    obtain ⟨fuel, hf⟩ := h1
    rcases open_ints Tryd.underlying22 Tryd.underlying5 (by kernel_rfl) hf with ⟨hcs, _⟩ | ⟨x, l, c, zs, hcs, _, hl, hm, hz, _, hcell, hwz⟩
    · simp [Value.cells] at hcs
      obtain ⟨rfl, rfl, rfl⟩ := hcs
      exact ⟨[], .inl ⟨rfl, rfl, rfl, rfl⟩⟩
    · simp [Value.cells] at hcs
      obtain ⟨rfl, rfl, rfl⟩ := hcs
      exact ⟨zs, .inr ⟨_, rfl, hl, hm, by simpa using hz, hcell, hwz⟩⟩
  clear hA0 hval0
  simp only [List.append_nil] at hW'
  have hg := handle_of_laid hL
  refine (walk a0 len0 cap0 z0 a1 len1 cap1 z1 W w0 w1 hg).mono fun e W' ⟨he, bel⟩ => ?_
  subst he
  exact ⟨_, rfl, _, _, _, [], _, [], hW', trodAll_mk1 (shut_bool Tryd.underlying4 _), (trodAll_cons_mk (Below.trod laidOut (by kernel_rfl) (of_decide_eq_true (by kernel_rfl)) k0 bel lt0) (trodAll_cons_mk (Below.trod laidOut (by kernel_rfl) (of_decide_eq_true (by kernel_rfl)) k1 bel lt1) trodAll_mk0)), rfl, bel.frame _, fun h => by cases h⟩

theorem row_holds : Rows.FnNumsSaid :=
  OpenClaim.holds_of_wide 3 Tryd.f3 rfl rfl rfl rfl rfl rfl rfl ⟨rfl, rfl, rfl, rfl, rfl⟩ rfl rfl rfl rfl rfl (by kernel_rfl) Tryd.func3 (by kernel_rfl)
    (of_decide_eq_true (by kernel_rfl)) (by unfold Func.isWrapper; first | (rw [if_pos (by decide +kernel)]; kernel_rfl) | (rw [if_neg (by decide +kernel)]; exact ⟨rfl, rfl⟩))
    (fun os started H enc _ => lifted os started H enc)

theorem proved : Rows.FnNumsCardSaid :=
  Claim7.holds_tied_plain_at .later [] [.handle] true (true, "4ef20f7d37f311770ee8da0f206222bea98d38b68ed6facc29e9c68b7c8c4b4b") true
    row_holds (fun _ h => by cases h) (by kernel_rfl) (fun _ h => by cases h) fnNums_row_tie rfl ⟨rfl, rfl⟩ (by kernel_rfl) rfl
    (fun f fn hf hfn => by
      obtain rfl : f = 3 := Option.some.inj ((show Tryd.prog.funcNamed "loop.example/g00576/laws.FnNums" = some 3 by kernel_rfl).symm.trans hf) |>.symm
      obtain rfl : fn = Tryd.f3 := (Option.some.inj (Tryd.func3.symm.trans hfn)).symm
      exact ⟨by kernel_rfl, fun j t ht => by
        rw [Tryd.params3] at ht
        have h3 : t ∈ [22, 22] := by
          match j, ht with
          | 0, ht => simp at ht; simp [← ht]
          | 1, ht => simp at ht; simp [← ht]
          | j + 2, ht => simp at ht
        simp only [List.mem_cons, List.not_mem_nil, or_false] at h3
        obtain rfl : t = 22 := by simpa using h3
        exact (show Tryd.prog.wantsStandIn 22 = false by kernel_rfl)⟩)
    (by kernel_rfl)
#print axioms proved
end Go.Proofs.YtodhohkehbakoaaDoor.FnNums
