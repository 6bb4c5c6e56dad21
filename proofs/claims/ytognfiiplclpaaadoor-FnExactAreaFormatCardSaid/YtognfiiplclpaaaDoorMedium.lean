/-
  Contracts of the program's mediumOf and of the medium's read.
-/
import Derived.Test.YtognfiiplclpaaaDoorFlushM
import Derived.Test.YtognfiiplclpaaaDoorAnew
namespace Go.Proofs.YtognfiiplclpaaaDoor
open Go.ChangeShapes Go.WideShapes Go.ChangeAt Go.RowKit Go.Maps

theorem keyLaw : Keyed Tryd.prog 2 := int_keyed Tryd.underlying2
theorem zeroStr (w : World) : (zeroValue 9).run Tryd.prog w = .ok (.string ⟨#[]⟩) w := by kernel_rfl
theorem key_of (a : Int) (h : -9223372036854775808 ≤ a ∧ a ≤ 9223372036854775807) : keyOf Tryd.prog 2 (.int .i64 a) = some (.int .i64 a) := keyOf_int_mk Tryd.underlying2 (WalkArith.wf_i64 h)
theorem val_of (t : ByteArray) (h : t.size ≤ 1048576) : plainElem (H := Unit) Tryd.prog 9 (.string t) = some (.lit (.string t.data.toList), []) := plainElem_string Tryd.underlying9 (by unfold maxLen; omega)
/-- A row is no map. -/
theorem row_no_map {w : World} {base : Nat} {e : TypeId} {k : Nat} {v : Value} {n : Nat} {xs : List Value} {P : Program} {K : TypeId} {R : Value → Option (DataW Unit × List MemPlace)} {b m : Nat} {D : DataW Unit} (h : w.ownsRow base e k v n xs) (hm : w.ownsMap P K R b m D) : v.ownBlock = none ∨ v.ownBlock ≠ some b := by
  rcases h.2 with ⟨rfl, _⟩ | ⟨g, cap, cur, rfl, _, hg, _⟩
  · exact .inl rfl
  · refine .inr fun e => ?_
    simp [Value.ownBlock] at e
    subst e
    obtain ⟨es, cl, hb, _⟩ := hm
    rw [hg] at hb
    cases hb

/-- A medium that the call made: its sectors, and a map of what is pending. -/
def MedOwn (w : World) (base : Nat) (v : Value) (d : Dk) : Prop := ∃ A c b n D, v = .agg #[.slice A d.S.length c, .map (some b)] ∧ Ow w base 9 1 encS (.slice A d.S.length c) d.S ∧ w.ownsMap Tryd.prog 2 (plainElem Tryd.prog 9) b n D ∧ MapIs D d.P ∧ base ≤ b ∧ n ≤ 1048576
def OwnsMed (w : World) (d : Dk) (e : Ending) (w' : World) : Prop := ∃ v, e = .returned v ∧ MedOwn w' w.heap.size v d ∧ Below w.heap.size w w'

set_option maxRecDepth 100000 in
set_option maxHeartbeats 4000000 in
theorem impl_medium (v : Value) (d : Dk) (w : World) (hv : DkAt w w.heap.size v d) (hd : Small d) :
    Calls Tryd.prog 55 #[v] w (OwnsMed w d) := by
  obtain ⟨vs, vp, rfl, hs, hp⟩ := hv
  have HV := Lib.hid (show DkAt w w.heap.size (.agg #[vs, vp]) d from ⟨_, _, rfl, hs, hp⟩)
  obtain ⟨A1, c1, rfl⟩ := hs.form
  obtain ⟨A2, c2, rfl⟩ := hp.form
  have HC := Lib.hid (fun W (hb : Below w.heap.size w W) => impl_anew _ d W ((HV.out.below hb).more hb.size) hd)
  obtain ⟨d1, d2, d3, d4, d5⟩ := hd
  have HD4 := Lib.hid d4; have HD5 := Lib.hid d5
  clear hs hp HV d2 d4 d5
  have hmm := @run_makeMap Tryd.prog
  go_enter Tryd.func55, Tryd.ntmps55
  go_wp2_with fail
  refine (HC.out _ (((Below.refl _ _).alloc (Nat.le_refl _) _).alloc (by simp) _)).mono ?_
  intro e w1 h1
  obtain ⟨B1, e1, B2, e2, rfl, ho1, hb1⟩ := h1.parts
  have HB1 := Lib.hid (below_call (((Below.refl w.heap.size w).alloc (Nat.le_refl _) _).alloc (by simp) _) (by simp only [World.size_alloc]; omega) hb1)
  have HG1 := Lib.hid (keep_blk hb1 (heap_two _ _ _))
  have hz1 := block_lt HG1.out
  have hzz := hb1.size
  simp only [World.size_alloc] at hzz
  obtain ⟨vs', vp', ev, hos, hop⟩ := ho1
  simp only [Value.agg.injEq, Array.mk.injEq, List.cons.injEq, and_true] at ev
  obtain ⟨rfl, rfl⟩ := ev
  have HOS := Lib.hid (hos.base (base' := w.heap.size + 1 + 1) (by simp)); have HOP := Lib.hid (hop.base (base' := w.heap.size + 1 + 1) (by simp))
  clear h1 hb1 hos hop
  go_wp2
  go_loopw [16] (fun i wr => ∃ (k : Nat) (D : DataW Unit), k ≤ d.P.length ∧ i = .int .i64 (k : Int) ∧ wr.heap[w.heap.size + 1]? = some (.cells #[.slice none 0 0, .map none] 83 (0, 0)) ∧ wr.heap[w1.heap.size + 1 + 1]? = some (.cells #[.slice B1 d.S.length e1, .map (some (w1.heap.size + 1))] 83 (0, 0)) ∧ Ow wr (w.heap.size + 1 + 1) 9 1 encS (.slice B1 d.S.length e1) d.S ∧ Ow wr (w.heap.size + 1 + 1) 72 2 encP (.slice B2 d.P.length e2) d.P ∧ wr.ownsMap Tryd.prog 2 (plainElem Tryd.prog 9) (w1.heap.size + 1) k D ∧ MapIs D (d.P.take k) ∧ Below w.heap.size w wr) (fun i _ => d.P.length - (intOf i).toNat)
  case atStart =>
    refine ⟨0, .map [], by omega, rfl, alloc_blk (alloc_blk (alloc_blk HG1.out _) _) _, heap_at (by simp), ((HOS.out.alloc _).alloc _).alloc _, ((HOP.out.alloc _).alloc _).alloc _, ?_, mapIs_nil, ((HB1.out.alloc HB1.out.size _).alloc (by have := HB1.out.size; simp only [World.size_alloc]; omega) _).alloc (by have := HB1.out.size; simp only [World.size_alloc]; omega) _⟩
    have h := World.ownsMap_made (w1.alloc (.cells #[.slice B1 d.S.length e1, .slice B2 d.P.length e2] 29)) Tryd.prog 2 (plainElem (H := Unit) Tryd.prog 9)
    rw [World.size_alloc] at h
    exact h.alloc _
  case round =>
    clear HOS HOP HB1 HG1
    obtain ⟨k, D, hk, rfl, hg1, hg4, hos, hop, hm, hmi, hb⟩ := hrel
    have HG1 := Lib.hid hg1; have HG4 := Lib.hid hg4; have HOS := Lib.hid hos; have HOP := Lib.hid hop; have HM := Lib.hid hm; have HMI := Lib.hid hmi; have HB := Lib.hid hb
    have hzr := block_lt hg4
    have hz1r := block_lt hg1
    clear hg1 hg4 hos hm hmi hb
    by_cases hlt : k < d.P.length
    · obtain ⟨ad, c', e', had, hc, hcd⟩ := (hop.sl encP_len).two k hlt
      clear hop
      simp only [Value.slice.injEq, true_and] at e'
      obtain ⟨rfl, rfl⟩ := e'
      have hmem := getElem_mem' d.P k hlt
      have HT4 := Lib.hid (HD4.out _ hmem); have HT5 := Lib.hid (HD5.out _ hmem)
      clear hmem
      obtain ⟨t, ht⟩ : ∃ t, t = d.P[k] := ⟨_, rfl⟩
      rw [← ht] at hc hcd HT4 HT5
      have HT := Lib.hid ht; clear ht
      obtain ⟨x0, x1⟩ := box2 HG4.out
      go_wp2_with (at_mapUpdate; refine wpList_mapUpdate_own _ rfl _ _ _ 81 rfl 2 9 keyLaw Tryd.underlying81 _ (w1.heap.size + 1) k _ rfl (HM.out.alloc _) (by unfold maxLen; omega) _ _ _ rfl rfl (key_of t.1 HT5.out) _ [] (val_of t.2 HT4.out) ?_; intro w2 hm2 hg2; have HM2 := Lib.hid hm2; have HG2 := Lib.hid hg2; clear hm2 hg2)
      go_roundw
      case rel =>
        have hzn : w.heap.size + 1 ≠ w1.heap.size + 1 := by omega
        refine ⟨k + 1, _, by omega, by go_num, ?_, ?_, ?_, ?_, HM2.out, ?_, ?_⟩
        · exact (HG2.out.block _ (by simp; omega) (by simp; omega)).trans (alloc_blk HG1.out _)
        · exact (HG2.out.block _ (by simp; omega) (by simp)).trans (alloc_blk HG4.out _)
        · exact World.ownsRow.kept (World.ownsRow.alloc HOS.out _) HG2.out (row_no_map (World.ownsRow.alloc HOS.out (.cells #[] 0)) (HM.out.alloc _))
        · exact World.ownsRow.kept (World.ownsRow.alloc HOP.out _) HG2.out (row_no_map (World.ownsRow.alloc HOP.out (.cells #[] 0)) (HM.out.alloc _))
        · have e : d.P.take (k + 1) = d.P.take k ++ [(t.1, t.2)] := by rw [List.take_succ_eq_append_getElem hlt, HT.out]
          rw [e]
          exact HMI.out.put (HM.out.isMap) t.1 t.2
        · exact (HB.out.alloc HB.out.size _).grown HG2.out (by have := HB.out.size; simp only [World.size_alloc]; omega) (fun g hg => by cases hg; omega)
      case measure => simp [intOf]; omega
    · have hks : k = d.P.length := by omega
      subst hks
      have e : d.P.take d.P.length = d.P := List.take_of_length_le (Nat.le_refl _)
      rw [e] at HMI
      clear e hop
      obtain ⟨x0, x1⟩ := box2 HG4.out
      obtain ⟨y0, y1⟩ := box2 HG1.out
      have f0 := block_free HG1.out 0
      have f1 := block_free HG1.out 1
      go_wp2
      refine bodyPost_ret (v := .agg #[.slice B1 d.S.length e1, .map (some (w1.heap.size + 1))]) (by simp [results, Tryd.results55, go_sem, y0, y1]) rfl ⟨_, rfl, ⟨B1, e1, w1.heap.size + 1, d.P.length, D, rfl, ?_, ?_, HMI.out, by omega, d3⟩, ?_⟩
      · exact ((HOS.out.far (by simp only; omega) _).far (by simp only; omega) _).base (by omega)
      · exact (HM.out.setCell (by simp only; omega) _).setCell (by simp only; omega) _
      · exact (HB.out.setCell (by simp only; omega) _).setCell (by simp only; omega) _

theorem size_none : (ByteArray.mk #[]).size ≤ maxLen := Nat.zero_le _
set_option maxRecDepth 100000 in
theorem impl_medread (v : Value) (d : Dk) (k : Nat) (w : World) (base : Nat) (hv : MedOwn w base v d) (hk : k < d.S.length) (hS : d.S.length ≤ 1048576) :
    Calls Tryd.prog 64 #[v, .int .i64 (k : Int)] w fun e w' => e = .returned (.string (readT d k)) ∧ Below w.heap.size w w' := by
  obtain ⟨A, c, b, n, D, rfl, hos, hm, hmi, hb, hn⟩ := hv
  have hbl := hm.lt
  have HM := Lib.hid hm
  obtain ⟨hi1, hi2⟩ := hmi (k : Int)
  obtain ⟨ad, c', e', had, hc⟩ := (hos.sl encS_len).one k hk
  simp only [Value.slice.injEq, true_and] at e'
  obtain ⟨rfl, rfl⟩ := e'
  have hca : ∀ o, (w.alloc o).cell? (ad.add k) = some (.string d.S[k]) := fun o => (World.cell?_alloc_lt w o _ (by rw [add_block]; exact had)).trans hc
  have HI2 := Lib.hid hi2
  clear hos hm hmi hi2
  have hrd : readT d k = (lastOf d.P (k : Int)).getD d.S[k] := by unfold readT; simp [hk]
  have HRD := Lib.hid hrd; clear hrd
  cases hl : lastOf d.P (k : Int) with
  | none =>
    rw [hl] at hi1
    have HH := Lib.hid hi1
    have HL := Lib.hid hl
    clear hi1 hl
    go_enter Tryd.func64, Tryd.ntmps64
    go_wp2_with (at_lookup; refine wpList_lookup_own_ok _ rfl _ _ 81 rfl 2 9 keyLaw Tryd.underlying81 _ (zeroStr _) (.lit (.string [])) [] (plainElem_string Tryd.underlying9 size_none) b n D rfl (HM.out.alloc _) _ _ rfl (key_of (k : Int) (by omega)) ?_; intro v ps hv; obtain ⟨s, rfl, _, _⟩ := plainElem_string_inv Tryd.underlying9 hv; clear hv; rw [HH.out]; simp only [Option.isSome_none])
    go_ret
    exact ⟨by rw [HRD.out, HL.out]; rfl, (Below.refl _ _).alloc (Nat.le_refl _) _⟩
  | some t =>
    rw [hl] at hi1
    have HH := Lib.hid hi1
    have HL := Lib.hid hl
    have HA := Lib.hid (HI2.out t hl)
    clear hi1 hl
    go_enter Tryd.func64, Tryd.ntmps64
    go_wp2_with (at_lookup; refine wpList_lookup_own_ok _ rfl _ _ 81 rfl 2 9 keyLaw Tryd.underlying81 _ (zeroStr _) (.lit (.string [])) [] (plainElem_string Tryd.underlying9 size_none) b n D rfl (HM.out.alloc _) _ _ rfl (key_of (k : Int) (by omega)) ?_; intro v ps hv; obtain ⟨s, rfl, hz, _⟩ := plainElem_string_inv Tryd.underlying9 hv; rw [HA.out] at hz; have HS := Lib.hid (bytes_back t s (congrArg Prod.fst hz)); clear hv hz; rw [HH.out]; simp only [Option.isSome_some])
    go_ret
    exact ⟨by rw [HRD.out, HL.out, ← HS.out]; rfl, (Below.refl _ _).alloc (Nat.le_refl _) _⟩

end Go.Proofs.YtognfiiplclpaaaDoor
