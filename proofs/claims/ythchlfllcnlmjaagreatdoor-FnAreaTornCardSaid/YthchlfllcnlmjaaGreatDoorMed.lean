/-
  A medium: made, read, flushed; owned.
-/
import Derived.Test.YthchlfllcnlmjaaGreatDoorBase2
import Derived.Test.YthchlfllcnlmjaaGreatDoorAnew
/-! Contracts of the program's mediumOf and of the medium's read. -/
namespace Go.Proofs.YthchlfllcnlmjaaGreatDoor
open Go.ChangeShapes Go.WideShapes Go.ChangeAt Go.RowKit Go.Maps

theorem keyLaw : Keyed Tryz.prog 2 := int_keyed Tryz.underlying2
theorem zeroStr (w : World) : (zeroValue 9).run Tryz.prog w = .ok (.string ⟨#[]⟩) w := by kernel_rfl
theorem key_of (a : Int) (h : -9223372036854775808 ≤ a ∧ a ≤ 9223372036854775807) : keyOf Tryz.prog 2 (.int .i64 a) = some (.int .i64 a) := keyOf_int_mk Tryz.underlying2 (WalkArith.wf_i64 h)
theorem val_of (t : ByteArray) (h : t.size ≤ 1048576) : plainElem (H := Unit) Tryz.prog 9 (.string t) = some (.lit (.string t.data.toList), []) := plainElem_string Tryz.underlying9 (by unfold maxLen; omega)
/-- A row is no map. -/
theorem row_no_map {w : World} {base : Nat} {e : TypeId} {k : Nat} {v : Value} {n : Nat} {xs : List Value} {P : Program} {K : TypeId} {R : Value → Option (DataW Unit × List MemPlace)} {b m : Nat} {D : DataW Unit} (h : w.ownsRow base e k v n xs) (hm : w.ownsMap P K R b m D) : v.ownBlock = none ∨ v.ownBlock ≠ some b := by
  rcases h.2 with ⟨rfl, _⟩ | ⟨g, cap, cur, rfl, _, hg, _⟩
  · exact .inl rfl
  · refine .inr fun e => ?_
    simp [Value.ownBlock] at e
    subst e
    obtain ⟨es, cl, hb, _⟩ := hm
    rw [hg] at hb
    cases hb

/-- A medium that the call made: its sectors, and a map of what is pending. -/
def MedOwn (w : World) (base : Nat) (v : Value) (d : Dk) : Prop := ∃ A c b n D, v = .agg #[.slice A d.S.length c, .map (some b)] ∧ Ow w base 9 1 encS (.slice A d.S.length c) d.S ∧ w.ownsMap Tryz.prog 2 (plainElem Tryz.prog 9) b n D ∧ MapIs D d.P ∧ base ≤ b ∧ n ≤ 1048576
def OwnsMed (w : World) (d : Dk) (e : Ending) (w' : World) : Prop := ∃ v, e = .returned v ∧ MedOwn w' w.heap.size v d ∧ Below w.heap.size w w'

set_option maxRecDepth 100000 in
set_option maxHeartbeats 4000000 in
theorem impl_medium (v : Value) (d : Dk) (w : World) (hv : DkAt w w.heap.size v d) (hd : Small d) :
    Calls Tryz.prog 59 #[v] w (OwnsMed w d) := by
  obtain ⟨vs, vp, rfl, hs, hp⟩ := hv
  have HV := Lib.hid (show DkAt w w.heap.size (.agg #[vs, vp]) d from ⟨_, _, rfl, hs, hp⟩)
  obtain ⟨A1, c1, rfl⟩ := hs.form
  obtain ⟨A2, c2, rfl⟩ := hp.form
  have HC := Lib.hid (fun W (hb : Below w.heap.size w W) => impl_anew _ d W ((HV.out.below hb).more hb.size) hd)
  obtain ⟨d1, d2, d3, d4, d5⟩ := hd
  have HD4 := Lib.hid d4; have HD5 := Lib.hid d5
  clear hs hp HV d2 d4 d5
  have hmm := @run_makeMap Tryz.prog
  go_enter Tryz.func59, Tryz.ntmps59
  go_wp2_with fail
  refine (HC.out _ (((Below.refl _ _).alloc (Nat.le_refl _) _).alloc (by simp) _)).mono ?_
  intro e w1 h1
  obtain ⟨B1, e1, B2, e2, rfl, ho1, hb1⟩ := h1.parts
  have HB1 := Lib.hid (below_call (((Below.refl w.heap.size w).alloc (Nat.le_refl _) _).alloc (by simp) _) (by simp only [World.size_alloc]; omega) hb1)
  have HG1 := Lib.hid (keep_blk hb1 (heap_two _ _ _))
  have hz1 := block_lt HG1.out
  have hzz := hb1.size
  simp only [World.size_alloc] at hzz
  obtain ⟨vs', vp', ev, hos, hop⟩ := ho1
  simp only [Value.agg.injEq, Array.mk.injEq, List.cons.injEq, and_true] at ev
  obtain ⟨rfl, rfl⟩ := ev
  have HOS := Lib.hid (hos.base (base' := w.heap.size + 1 + 1) (by simp)); have HOP := Lib.hid (hop.base (base' := w.heap.size + 1 + 1) (by simp))
  clear h1 hb1 hos hop
  go_wp2
  go_loopw [16] (fun i wr => ∃ (k : Nat) (D : DataW Unit), k ≤ d.P.length ∧ i = .int .i64 (k : Int) ∧ wr.heap[w.heap.size + 1]? = some (.cells #[.slice none 0 0, .map none] 87 (0, 0)) ∧ wr.heap[w1.heap.size + 1 + 1]? = some (.cells #[.slice B1 d.S.length e1, .map (some (w1.heap.size + 1))] 87 (0, 0)) ∧ Ow wr (w.heap.size + 1 + 1) 9 1 encS (.slice B1 d.S.length e1) d.S ∧ Ow wr (w.heap.size + 1 + 1) 84 2 encP (.slice B2 d.P.length e2) d.P ∧ wr.ownsMap Tryz.prog 2 (plainElem Tryz.prog 9) (w1.heap.size + 1) k D ∧ MapIs D (d.P.take k) ∧ Below w.heap.size w wr) (fun i _ => d.P.length - (intOf i).toNat)
  case atStart =>
    refine ⟨0, .map [], by omega, rfl, alloc_blk (alloc_blk (alloc_blk HG1.out _) _) _, heap_at (by simp), ((HOS.out.alloc _).alloc _).alloc _, ((HOP.out.alloc _).alloc _).alloc _, ?_, mapIs_nil, ((HB1.out.alloc HB1.out.size _).alloc (by have := HB1.out.size; simp only [World.size_alloc]; omega) _).alloc (by have := HB1.out.size; simp only [World.size_alloc]; omega) _⟩
    have h := World.ownsMap_made (w1.alloc (.cells #[.slice B1 d.S.length e1, .slice B2 d.P.length e2] 26)) Tryz.prog 2 (plainElem (H := Unit) Tryz.prog 9)
    rw [World.size_alloc] at h
    exact h.alloc _
  case round =>
    clear HOS HOP HB1 HG1
    obtain ⟨k, D, hk, rfl, hg1, hg4, hos, hop, hm, hmi, hb⟩ := hrel
    have HG1 := Lib.hid hg1; have HG4 := Lib.hid hg4; have HOS := Lib.hid hos; have HOP := Lib.hid hop; have HM := Lib.hid hm; have HMI := Lib.hid hmi; have HB := Lib.hid hb
    have hzr := block_lt hg4
    have hz1r := block_lt hg1
    clear hg1 hg4 hos hm hmi hb
    by_cases hlt : k < d.P.length
    · obtain ⟨ad, c', e', had, hc, hcd⟩ := (hop.sl encP_len).two k hlt
      clear hop
      simp only [Value.slice.injEq, true_and] at e'
      obtain ⟨rfl, rfl⟩ := e'
      have hmem := getElem_mem' d.P k hlt
      have HT4 := Lib.hid (HD4.out _ hmem); have HT5 := Lib.hid (HD5.out _ hmem)
      clear hmem
      obtain ⟨t, ht⟩ : ∃ t, t = d.P[k] := ⟨_, rfl⟩
      rw [← ht] at hc hcd HT4 HT5
      have HT := Lib.hid ht; clear ht
      obtain ⟨x0, x1⟩ := box2 HG4.out
      go_wp2_with (at_mapUpdate; refine wpList_mapUpdate_own _ rfl _ _ _ 85 rfl 2 9 keyLaw Tryz.underlying85 _ (w1.heap.size + 1) k _ rfl (HM.out.alloc _) (by unfold maxLen; omega) _ _ _ rfl rfl (key_of t.1 HT5.out) _ [] (val_of t.2 HT4.out) ?_; intro w2 hm2 hg2; have HM2 := Lib.hid hm2; have HG2 := Lib.hid hg2; clear hm2 hg2)
      go_roundw
      case rel =>
        have hzn : w.heap.size + 1 ≠ w1.heap.size + 1 := by omega
        refine ⟨k + 1, _, by omega, by go_num, ?_, ?_, ?_, ?_, HM2.out, ?_, ?_⟩
        · exact (HG2.out.block _ (by simp; omega) (by simp; omega)).trans (alloc_blk HG1.out _)
        · exact (HG2.out.block _ (by simp; omega) (by simp)).trans (alloc_blk HG4.out _)
        · exact World.ownsRow.kept (World.ownsRow.alloc HOS.out _) HG2.out (row_no_map (World.ownsRow.alloc HOS.out (.cells #[] 0)) (HM.out.alloc _))
        · exact World.ownsRow.kept (World.ownsRow.alloc HOP.out _) HG2.out (row_no_map (World.ownsRow.alloc HOP.out (.cells #[] 0)) (HM.out.alloc _))
        · have e : d.P.take (k + 1) = d.P.take k ++ [(t.1, t.2)] := by rw [List.take_succ_eq_append_getElem hlt, HT.out]
          rw [e]
          exact HMI.out.put (HM.out.isMap) t.1 t.2
        · exact (HB.out.alloc HB.out.size _).grown HG2.out (by have := HB.out.size; simp only [World.size_alloc]; omega) (fun g hg => by cases hg; omega)
      case measure => simp [intOf]; omega
    · have hks : k = d.P.length := by omega
      subst hks
      have e : d.P.take d.P.length = d.P := List.take_of_length_le (Nat.le_refl _)
      rw [e] at HMI
      clear e hop
      obtain ⟨x0, x1⟩ := box2 HG4.out
      obtain ⟨y0, y1⟩ := box2 HG1.out
      have f0 := block_free HG1.out 0
      have f1 := block_free HG1.out 1
      go_wp2
      refine bodyPost_ret (v := .agg #[.slice B1 d.S.length e1, .map (some (w1.heap.size + 1))]) (by simp [results, Tryz.results59, go_sem, y0, y1]) rfl ⟨_, rfl, ⟨B1, e1, w1.heap.size + 1, d.P.length, D, rfl, ?_, ?_, HMI.out, by omega, d3⟩, ?_⟩
      · exact ((HOS.out.far (by simp only; omega) _).far (by simp only; omega) _).base (by omega)
      · exact (HM.out.setCell (by simp only; omega) _).setCell (by simp only; omega) _
      · exact (HB.out.setCell (by simp only; omega) _).setCell (by simp only; omega) _

theorem size_none : (ByteArray.mk #[]).size ≤ maxLen := Nat.zero_le _
set_option maxRecDepth 100000 in
theorem impl_medread (v : Value) (d : Dk) (k : Nat) (w : World) (base : Nat) (hv : MedOwn w base v d) (hk : k < d.S.length) (hS : d.S.length ≤ 1048576) :
    Calls Tryz.prog 74 #[v, .int .i64 (k : Int)] w fun e w' => e = .returned (.string (readT d k)) ∧ Below w.heap.size w w' := by
  obtain ⟨A, c, b, n, D, rfl, hos, hm, hmi, hb, hn⟩ := hv
  have hbl := hm.lt
  have HM := Lib.hid hm
  obtain ⟨hi1, hi2⟩ := hmi (k : Int)
  obtain ⟨ad, c', e', had, hc⟩ := (hos.sl encS_len).one k hk
  simp only [Value.slice.injEq, true_and] at e'
  obtain ⟨rfl, rfl⟩ := e'
  have hca : ∀ o, (w.alloc o).cell? (ad.add k) = some (.string d.S[k]) := fun o => (World.cell?_alloc_lt w o _ (by rw [add_block]; exact had)).trans hc
  have HI2 := Lib.hid hi2
  clear hos hm hmi hi2
  have hrd : readT d k = (lastOf d.P (k : Int)).getD d.S[k] := by unfold readT; simp [hk]
  have HRD := Lib.hid hrd; clear hrd
  cases hl : lastOf d.P (k : Int) with
  | none =>
    rw [hl] at hi1
    have HH := Lib.hid hi1
    have HL := Lib.hid hl
    clear hi1 hl
    go_enter Tryz.func74, Tryz.ntmps74
    go_wp2_with (at_lookup; refine wpList_lookup_own_ok _ rfl _ _ 85 rfl 2 9 keyLaw Tryz.underlying85 _ (zeroStr _) (.lit (.string [])) [] (plainElem_string Tryz.underlying9 size_none) b n D rfl (HM.out.alloc _) _ _ rfl (key_of (k : Int) (by omega)) ?_; intro v ps hv; obtain ⟨s, rfl, _, _⟩ := plainElem_string_inv Tryz.underlying9 hv; clear hv; rw [HH.out]; simp only [Option.isSome_none])
    go_ret
    exact ⟨by rw [HRD.out, HL.out]; rfl, (Below.refl _ _).alloc (Nat.le_refl _) _⟩
  | some t =>
    rw [hl] at hi1
    have HH := Lib.hid hi1
    have HL := Lib.hid hl
    have HA := Lib.hid (HI2.out t hl)
    clear hi1 hl
    go_enter Tryz.func74, Tryz.ntmps74
    go_wp2_with (at_lookup; refine wpList_lookup_own_ok _ rfl _ _ 85 rfl 2 9 keyLaw Tryz.underlying85 _ (zeroStr _) (.lit (.string [])) [] (plainElem_string Tryz.underlying9 size_none) b n D rfl (HM.out.alloc _) _ _ rfl (key_of (k : Int) (by omega)) ?_; intro v ps hv; obtain ⟨s, rfl, hz, _⟩ := plainElem_string_inv Tryz.underlying9 hv; rw [HA.out] at hz; have HS := Lib.hid (bytes_back t s (congrArg Prod.fst hz)); clear hv hz; rw [HH.out]; simp only [Option.isSome_some])
    go_ret
    exact ⟨by rw [HRD.out, HL.out, ← HS.out]; rfl, (Below.refl _ _).alloc (Nat.le_refl _) _⟩

end Go.Proofs.YthchlfllcnlmjaaGreatDoor

/-! The contract of the medium's flushed: all that is pending is in the sectors, in whatever order the map is ranged over. -/
namespace Go.Proofs.YthchlfllcnlmjaaGreatDoor
open Go.ChangeShapes Go.WideShapes Go.ChangeAt Go.RowKit Go.Maps

/-- What is still to come, or is in the sectors. -/
def Midway (S L : List ByteArray) (P : List Pd) (left : Lit → Bool) (D : DataW Unit) : Prop :=
  L.length = S.length ∧ (∀ a : Int, left (.int .i64 a) = true → ∃ s, lastOf P a = some s ∧ ∀ z, D.atKey (.int .i64 a) z = .lit (.string s.data.toList)) ∧
    ∀ (i : Nat) (hi : i < S.length), L[i]? = some (if left (.int .i64 (i : Int)) = true then S[i] else (lastOf P (i : Int)).getD S[i])
theorem midway_start {S : List ByteArray} {P : List Pd} {D : DataW Unit} (h : MapIs D P) : Midway S S P (has D) D := by
  refine ⟨rfl, fun a ha => ?_, fun i hi => ?_⟩
  · rw [(h a).1] at ha
    obtain ⟨s, hs⟩ := Option.isSome_iff_exists.1 ha
    exact ⟨s, hs, (h a).2 s hs⟩
  · rw [List.getElem?_eq_getElem hi]
    by_cases hh : has D (.int .i64 (i : Int)) = true
    · rw [if_pos hh]
    · rw [if_neg hh]
      have := (h (i : Int)).1
      cases hl : lastOf P (i : Int) with
      | none => rfl
      | some s => rw [hl] at this; exact absurd this hh
theorem midway_end {S L : List ByteArray} {P : List Pd} {left : Lit → Bool} {D : DataW Unit} (h : Midway S L P left D) (hl : ∀ k, left k = false) : L = flushS S P := by
  refine flushS_eq S P L h.1 fun i hi => ?_
  rw [h.2.2 i hi, if_neg (by rw [hl]; simp)]
theorem midway_step {S L : List ByteArray} {P : List Pd} {left : Lit → Bool} {D : DataW Unit} (h : Midway S L P left D) (k : Nat) (c : ByteArray) (hk : k < S.length) (hc : lastOf P (k : Int) = some c) : Midway S (L.set k c) P (fun z => left z && !z.sameKey (.int .i64 (k : Int))) (D.del (.int .i64 (k : Int))) := by
  have hne : ∀ a : Int, a ≠ (k : Int) → (Lit.int .i64 a).sameKey (.int .i64 (k : Int)) = false := fun a ha => sameKey_ne (by simpa using ha)
  refine ⟨by rw [List.length_set]; exact h.1, fun a ha => ?_, fun i hi => ?_⟩
  · simp only [Bool.and_eq_true] at ha
    obtain ⟨h1, h2⟩ := ha
    have hak : a ≠ (k : Int) := by
      rintro rfl
      have : (Lit.int .i64 (k : Int)).sameKey (.int .i64 (k : Int)) = true := by simp [Lit.sameKey]
      rw [this] at h2
      cases h2
    obtain ⟨s, hs, hz⟩ := h.2.1 a h1
    have hl : (Lit.int .i64 a : Lit) ≠ Lit.int .i64 (k : Int) := by simpa using hak
    exact ⟨s, hs, fun z => by rw [atKey_del_other hl]; exact hz z⟩
  · rw [List.getElem?_set]
    by_cases hki : k = i
    · subst hki
      have : (Lit.int .i64 (k : Int)).sameKey (.int .i64 (k : Int)) = true := by simp [Lit.sameKey]
      rw [if_pos rfl, if_pos (by rw [h.1]; exact hk)]
      simp [this, hc]
    · have := hne (i : Int) (by omega)
      rw [if_neg hki, h.2.2 i hi]
      simp [this]

set_option maxRecDepth 100000 in
set_option maxHeartbeats 4000000 in
theorem impl_flushed (v : Value) (d : Dk) (w : World) (base B : Nat) (hv : MedOwn w base v d) (hP : ∀ p ∈ d.P, 0 ≤ p.1 ∧ p.1 < d.S.length) (hS : d.S.length ≤ 1048576) (hB : B ≤ base) (hBz : B ≤ w.heap.size) :
    Calls Tryz.prog 61 #[v] w fun e w' => ∃ A c, e = .returned (.agg #[.slice A d.S.length c, .slice none 0 0]) ∧ Ow w' base 9 1 encS (.slice A d.S.length c) (flushS d.S d.P) ∧ Below B w w' := by
  obtain ⟨A, c, b, n, D, rfl, hos, hm, hmi, hb, hn⟩ := hv
  have hbl := hm.lt
  have HLT := Lib.hid hos.lies
  have HOS := Lib.hid hos; have HM := Lib.hid hm; have HMI := Lib.hid hmi; have HP := Lib.hid hP
  have HNB := Lib.hid (row_no_map hos hm)
  clear hos hm hmi hP
  go_enter Tryz.func61, Tryz.ntmps61
  go_wp2_with (at_range; refine wpList_range_own _ rfl _ 85 rfl 2 9 keyLaw Tryz.underlying85 _ b n _ rfl ((HM.out.alloc _).alloc _) ?_; intro w0 hrg0 hg0 hs0; generalize hr : Array.size (World.heap ((w.alloc (.cells #[.slice A d.S.length c, .map (some b)] 87)).alloc (.cells #[.slice none 0 0, .slice none 0 0] 26))) = r at hrg0 hs0 ⊢)
  go_frame
  have hr' : r = w.heap.size + 1 + 1 := by rw [← hr]; simp
  have hr1 : w.heap.size + 1 < r := by omega
  have HR := Lib.hid hr'; clear hr hr'
  have HRG0 := Lib.hid hrg0; have HG0 := Lib.hid hg0
  clear hrg0 hg0
  go_loopw [3, 4] (fun _ _ wr => ∃ (left : Lit → Bool) (cnt : Nat) (D' : DataW Unit) (L : List ByteArray), wr.ranges Tryz.prog 2 (plainElem Tryz.prog 9) b r n D' left cnt ∧ wr.heap[w.heap.size]? = some (.cells #[.slice A d.S.length c, .map (some b)] 87 (0, 0)) ∧ wr.heap[w.heap.size + 1]? = some (.cells #[.slice none 0 0, .slice none 0 0] 26 (0, 0)) ∧ wr.ownsRow base 9 1 (.slice A d.S.length c) d.S.length (L.flatMap encS) ∧ Midway d.S L d.P left D' ∧ Below B w wr) (fun _ _ wr => wr.rangeLeft b r)
  case atStart =>
    refine ⟨_, _, _, d.S, HRG0.out, (HG0.out.block _ (by simp; omega) (by simp)).trans (alloc_blk (heap_alloc_new _ _) _), (HG0.out.block _ (by simp) (by simp)).trans (heap_at (by simp)), ?_, midway_start HMI.out, ?_⟩
    · exact World.ownsRow.kept (((HOS.out.alloc _).alloc _)) HG0.out (by cases h : (Value.slice A d.S.length c).ownBlock <;> simp)
    · exact (((Below.refl B w).alloc hBz _).alloc (by simp only [World.size_alloc]; omega) _).grown HG0.out (by simp only [World.size_alloc]; omega) (fun g hg => by cases hg)
  case round =>
    clear HRG0 HG0 HM HOS HMI hs0
    obtain ⟨left, cnt, D', L, hrg, hg0, hg1, hos, hmw, hbe⟩ := hrel
    have HRG := Lib.hid hrg; have HG0 := Lib.hid hg0; have HG1 := Lib.hid hg1; have HO := Lib.hid hos; have HW := Lib.hid hmw; have HBE := Lib.hid hbe
    clear hrg hg0 hg1 hos hmw hbe
    go_wp2_with (at_next; refine wpList_next_ranges_is _ rfl _ rfl 2 9 .i64 keyLaw Tryz.underlying2 Tryz.underlying9 b r n _ _ _ rfl HRG.out ?_ ?_)
    · intro _ hl0
      have HL := Lib.hid (midway_end HW.out hl0)
      clear hl0
      obtain ⟨x0, x1⟩ := box2 HG0.out
      obtain ⟨y0, y1⟩ := box2 HG1.out
      have f0 := block_free HG1.out 0
      have f1 := block_free HG1.out 1
      go_wp2
      refine bodyPost_ret (v := .agg #[.slice A d.S.length c, .slice none 0 0]) (by simp [results, Tryz.results61, go_sem, y0, y1]) rfl ⟨A, c, rfl, ?_, ?_⟩
      · have h : Ow wr base 9 1 encS (.slice A d.S.length c) (flushS d.S d.P) := by
          unfold Ow
          rw [← HL.out, HW.out.1]
          exact HO.out
        exact (h.aside (fun g hg => by have := (HLT.out g hg).2; simp only; omega) _).aside (fun g hg => by have := (HLT.out g hg).2; simp only; omega) _
      · exact (HBE.out.setCell (by simp only; omega) _).setCell (by simp only; omega) _
    · intro x c1 w1 cnt1 hwx hwc hlx hat hrg1 hlt hg1 hs1 hen
      obtain ⟨s, hs, hz⟩ := HW.out.2.1 x hlx
      have hcs : c1 = s := bytes_back c1 s ((hat .nil).symm.trans (hz .nil))
      subst hcs
      obtain ⟨hx0, hx1⟩ := HP.out _ (lastOf_mem _ _ _ hs)
      simp only at hx0 hx1
      obtain ⟨k, rfl⟩ := Int.eq_ofNat_of_zero_le hx0
      have hk : k < d.S.length := by omega
      have HS := Lib.hid hs; have HRG1 := Lib.hid hrg1; have HG1' := Lib.hid hg1; have HLT2 := Lib.hid hlt
      obtain ⟨g, rfl, hgb, hgl⟩ := own_form HO.out (by omega)
      have hglw := (HLT.out g rfl).2
      have hgb0 : b ≠ g := fun e => by
        rcases HNB.out with h | h
        · cases h
        · exact h (by rw [e]; rfl)
      have K0 := Lib.hid ((hg1.block w.heap.size (block_lt HG0.out) (fun e => by injection e with e; omega)).trans HG0.out)
      have K1 := Lib.hid ((hg1.block (w.heap.size + 1) (block_lt HG1.out) (fun e => by injection e with e; omega)).trans HG1.out)
      have HO1 := Lib.hid (World.ownsRow.kept HO.out hg1 (.inr (fun e => by have e' : g = r := Option.some.inj e; have hrr := HR.out; omega)))
      have HBE1 := Lib.hid (HBE.out.grown hg1 (by have := HBE.out.size; omega) (fun j hj => by have hj' := Option.some.inj hj; have hrr := HR.out; omega))
      clear hs hz hat hrg1 hg1 hlt hlx hx0 hs1
      obtain ⟨x0, x1⟩ := box2 K0.out
      obtain ⟨u, hu, hf⟩ := own_cell HO1.out k (by omega)
      go_wp2_with (at_delete; refine wpList_delete_ranges _ rfl _ _ 85 2 rfl 9 keyLaw Tryz.underlying85 _ b r n _ _ _ rfl (HRG1.out.kept (grown_set w1 g k _) (fun e => hgb0 (by injection e)) (fun e => by injection e with e; omega)) _ _ rfl (keyOf_int_mk Tryz.underlying2 hwx) ?_; intro w2 cnt2 hrg2 hle hturn; go_frame)
      rw [strike_twice] at hrg2
      refine ⟨⟨_, cnt2, _, L.set k c1, hrg2, ?_, ?_, ?_, midway_step HW.out k c1 hk HS.out, ?_⟩, ?_⟩
      · exact (hturn.grown.block _ (by simp only [World.size_setCell]; exact block_lt K0.out) (fun e => by injection e with e; omega)).trans ((Below.heap_setCell _ _ _ _ (by simp only; omega)).trans K0.out)
      · exact (hturn.grown.block _ (by simp only [World.size_setCell]; exact block_lt K1.out) (fun e => by injection e with e; omega)).trans ((Below.heap_setCell _ _ _ _ (by simp only; omega)).trans K1.out)
      · have h := World.ownsRow.kept (HO1.out.stored k (.string c1)).1 hturn.grown (.inr (fun e => hgb0 (by have e' : g = b := Option.some.inj e; exact e'.symm)))
        have e : (L.flatMap encS).set k (.string c1) = (L.set k c1).flatMap encS := by
          rw [show L.flatMap encS = L.map Value.string from flat_one Value.string L, show (L.set k c1).flatMap encS = (L.set k c1).map Value.string from flat_one Value.string _, List.map_set]
        rw [← e]
        exact h
      · exact (HBE1.out.setCell (p := ⟨g, k, none⟩) (by simp only; omega) _).grown hturn.grown (by have := HBE1.out.size; simp only [World.size_setCell]; omega) (fun j hj => by injection hj with hj; omega)
      · rw [hrg2.left_eq, HRG.out.left_eq]
        have := HLT2.out
        omega

end Go.Proofs.YthchlfllcnlmjaaGreatDoor

/-! A medium that the call owns, in later worlds. -/
namespace Go.Proofs.YthchlfllcnlmjaaGreatDoor
open Go.ChangeShapes Go.WideShapes Go.ChangeAt Go.RowKit

theorem med_lift {w w' : World} {base : Nat} {v : Value} {d : Dk} (h : MedOwn w base v d) (hb : Below w.heap.size w w') : MedOwn w' base v d := by
  obtain ⟨A, c, b, n, D, rfl, h1, h2, h3, h4, h5⟩ := h
  exact ⟨A, c, b, n, D, rfl, h1.lift hb, h2.kept (grown_below hb none) (by simp), h3, h4, h5⟩

end Go.Proofs.YthchlfllcnlmjaaGreatDoor
