/-
  Contracts of TextOf, of the model and of the program.
-/
import Derived.Test.YtghiipoeedfkhaaFitD
import Derived.Test.YtghiipoeedfkhaaTextM
import Derived.Test.YtghiipoeedfkhaaBldD
namespace Go.Proofs.Ytghiipoeedfkhaa
set_option linter.unusedSimpArgs false
set_option linter.unusedVariables false
open Go.ChangeShapes Go.WideShapes Go.ChangeAt Go.RowKit

theorem ret_str {a b : ByteArray} (h : a = b) : Ending.returned (.string a) = .returned (.string b) := by rw [h]
theorem infoInt : (Try.prog.info? 3).map (fun i => (i.zero, i.size, i.bytes)) = some (some (.int .i64 0), 1, 8) := by kernel_rfl
theorem intType : SlType Try.prog 76 3 1 8 := sl_type Try.underlying76 infoInt rfl (by omega)
theorem encI_one' : ∀ x : Int, ∀ u ∈ encI x, u.oneCell' = true := fun x u h => by simp [encI] at h; subst h; rfl

set_option maxRecDepth 100000 in
set_option maxHeartbeats 4000000 in
theorem spec_ltext (v : Value) (d : Dc) (w : World) (hv : DcAt w w.heap.size v d) (h1 : Ones d.X) (h60 : d.X.length ≤ 1048576) :
    Calls Try.prog 64 #[v] w (Back (.string (textB d.X)) w) := by
  obtain ⟨vx, vp, vh, rfl, hx, hp, hh⟩ := hv
  obtain ⟨A1, k1, rfl⟩ := hx.form; obtain ⟨A2, k2, rfl⟩ := hp.form; obtain ⟨A3, k3, rfl⟩ := hh.form
  have HV := Lib.hid hx; have HO1 := Lib.hid h1; clear hx hp hh h1
  obtain ⟨iu, i1, i2, i3, i4⟩ := info_parts infoByteD
  go_enter Try.func64, Try.ntmps64
  go_wp2
  go_loopw [3, 4] (fun b i wr => ∃ k : Nat, k ≤ d.X.length ∧ i = .int .i64 k ∧ ∃ n, n = (textL (d.X.take k)).length ∧ (∃ A c, b = .slice A n c) ∧ wr.ownsRow (w.heap.size + 1) 5 1 b n (Lib.byteCells (textL (d.X.take k))) ∧ wr.heap[w.heap.size]? = some (.cells #[.slice A1 d.X.length k1, .slice A2 d.P.length k2, .slice A3 d.H.length k3] 29 (0, 0)) ∧ Below w.heap.size w wr) (fun _ i _ => d.X.length - (intOf i).toNat)
  case atStart => exact ⟨0, Nat.zero_le _, rfl, 0, by simp [textL], ⟨_, _, rfl⟩, own_empty (heap_two _ _ _) _ _ (Nat.le_refl _), alloc_there (heap_alloc_new _ _) _, by (repeat (first | with_reducible refine bset ?_ _ (by omega) | with_reducible refine ball ?_ _ (by first | exact Nat.le_refl _ | (simp only [World.size_alloc, World.size_setCell]; omega)) | with_reducible exact Below.refl _ _ | with_reducible refine Below.drew ?_))⟩
  case round =>
    obtain ⟨k, hk, rfl, n, hn, ⟨A, c, rfl⟩, ho, hg, hb⟩ := hrel
    have HO := Lib.hid ho; have HG := Lib.hid hg; have HB := Lib.hid hb; have HN := Lib.hid hn
    obtain ⟨x0, x1, x2⟩ := box3 hg
    clear ho hg hb hn
    by_cases hlt : k < d.X.length
    · obtain ⟨ad, c', e', _, -, -, -, -, -, -, c6, c7⟩ := (HV.out.below HB.out).item k hlt
      simp only [Value.slice.injEq, true_and] at e'
      obtain ⟨rfl, rfl⟩ := e'
      have hone := HO1.out _ (getElem_mem' d.X k hlt)
      have HNL := Lib.hid (show n ≤ k by rw [HN.out]; exact Nat.le_trans (textL_len (HO1.out.take k)) (by rw [List.length_take]; omega))
      cases hgk : d.X[k].g with
      | true =>
        have HS := Lib.hid (textL_gone hlt hgk)
        rw [hgk] at c7
        clear hgk
        go_wp2
        go_roundw
        case rel => exact ⟨k + 1, by omega, by go_num, n, by rw [HS.out]; exact HN.out, ⟨_, _, rfl⟩, by rw [HS.out]; exact HO.out, HG.out, HB.out⟩
        case measure => simp [intOf]; omega
      | false =>
        have HS := Lib.hid (textL_live hlt hgk)
        rw [hgk] at c7
        clear hgk
        obtain ⟨t, ht⟩ : ∃ t, t = d.X[k].t := ⟨_, rfl⟩
        rw [← ht] at c6 HS hone
        clear ht
        have HN1 := Lib.hid (show n + t.size ≤ 140737488355328 by have := HNL.out; omega)
        have HON := Lib.hid hone; clear hone
        go_wp2_with (at_builtin; refine Lib.wpList_append_own_string _ rfl _ _ 22 9 rfl (w.heap.size + 1) 5 iu Try.underlying22 Try.underlying9 i1 i2 i3 i4 _ n _ rfl HO.out t rfl ?c3 ?c4 ?c5 ?_)
        case c3 => have := HN1.out; unfold maxLen; omega
        case c4 => exact HN1.out
        case c5 => have := block_lt HG.out; omega
        intro v9 w9 ho9 hg9 _
        have HLT := Lib.hid (World.ownsRow.lt HO.out)
        have HG9 := Lib.hid (show w9.heap[w.heap.size]? = _ from (hg9.block _ (block_lt HG.out) (fun e => by have := (HLT.out _ e.symm).1; omega)).trans HG.out)
        have HB9 := Lib.hid (HB.out.grown hg9 (HB.out.size) (fun g hgg => by have := (HLT.out g hgg).1; omega))
        obtain ⟨A9, c9, rfl⟩ : ∃ A9 c9, v9 = .slice A9 (n + t.size) c9 := by
          rcases ho9.2 with ⟨hv, h0⟩ | ⟨g, cap, cur, hv, _⟩
          · exact ⟨_, _, by rw [h0]; exact hv⟩
          · exact ⟨_, _, hv⟩
        have HO9 := Lib.hid ho9
        clear ho9 hg9 x0 x1 x2 c6 c7
        go_wp2
        go_roundw
        case rel => exact ⟨k + 1, by omega, by go_num, n + t.size, by rw [HS.out, List.length_append, ← HN.out, size_list], ⟨_, _, rfl⟩, by rw [HS.out]; unfold Lib.byteCells; rw [List.map_append]; exact HO9.out, HG9.out, HB9.out⟩
        case measure => simp [intOf]; omega
    · have hks : k = d.X.length := by omega
      subst hks
      have hcv := own_string 22 9 Try.underlying22 Try.underlying5 Try.underlying9 (show _ from (by have h := HO.out; rw [HN.out] at h; exact h))
      rw [← HN.out, List.take_length] at hcv
      go_wp2
      go_ret
      exact ⟨ret_str rfl, HB.out⟩

set_option maxRecDepth 100000 in
set_option maxHeartbeats 4000000 in
theorem spec_textOf (v : Value) (d : Dc) (w : World) (hv : DcAt w w.heap.size v d) (hf : Fit d) :
    Calls Try.prog 17 #[v] w (Back (.string (textD d)) w) := by
  have HD := Lib.hid (fun W (hb : Below w.heap.size w W) => spec_docF v d W ((hv.below hb).more hb.size) hf)
  have HT := Lib.hid (fun (h : DocP d) W (hb : Below w.heap.size w W) => spec_ltext v d W ((hv.below hb).more hb.size) (items_ones h.1) (by have := h.1.1; omega))
  obtain ⟨vx, vp, vh, rfl, hx, hp, hh⟩ := hv
  clear hx hp hh hf
  have HL := Lib.hid ((Lg.start w).alloc (.cells #[vx, vp, vh] 29))
  cases hd : docB d with
  | false =>
    replace HD := Lib.hid (fun W hb => (HD.out W hb).mono fun _ _ h => Tell.to h hd)
    have HE := Lib.hid (textD_no hd); clear hd
    go_enter Try.func17, Try.ntmps17
    go_wp2_with fail
    refine (HD.out _ HL.out.bel).mono ?_
    rintro e w1 ⟨rfl, hb1⟩
    replace HL := Lib.hid (HL.out.lift hb1); clear hb1
    go_wp2
    go_ret
    exact ⟨ret_str HE.out.symm, HL.out.bel⟩
  | true =>
    replace HD := Lib.hid (fun W hb => (HD.out W hb).mono fun _ _ h => Tell.to h hd)
    have HE := Lib.hid (textD_yes hd)
    replace HT := Lib.hid (HT.out ((docB_iff d).1 hd)); clear hd
    go_enter Try.func17, Try.ntmps17
    go_wp2_with fail
    refine (HD.out _ HL.out.bel).mono ?_
    rintro e w1 ⟨rfl, hb1⟩
    replace HL := Lib.hid (HL.out.lift hb1); clear hb1
    obtain ⟨x0, x1, x2⟩ := box3 (HL.out.blk _ List.mem_cons_self)
    go_wp2_with fail
    refine (HT.out _ HL.out.bel).mono ?_
    rintro e w2 ⟨rfl, hb2⟩
    replace HL := Lib.hid (HL.out.lift hb2); clear hb2
    go_wp2
    go_ret
    exact ⟨ret_str HE.out.symm, HL.out.bel⟩

set_option maxRecDepth 100000 in
set_option maxHeartbeats 4000000 in
theorem impl_live (v : Value) (l : List Im) (w : World) (hv : Sl w w.heap.size 8 encM v l) (hl : l.length ≤ 1048576) :
    Calls Try.prog 42 #[v] w (Owns w 3 1 encI (liveI l)) := by
  obtain ⟨A0, c0, rfl⟩ := hv.form
  have HV := Lib.hid hv; clear hv
  go_enter Try.func42, Try.ntmps42
  go_wp2
  go_loopw [3, 8] (fun b i wr => ∃ k : Nat, k ≤ l.length ∧ i = .int .i64 k ∧ ∃ n, n = (liveI (l.take k)).length ∧ (∃ A c, b = .slice A n c) ∧ wr.ownsRow w.heap.size 3 1 b n ((liveI (l.take k)).flatMap encI) ∧ Below w.heap.size w wr) (fun _ i _ => l.length - (intOf i).toNat)
  case atStart => exact ⟨0, Nat.zero_le _, rfl, 0, rfl, ⟨_, _, rfl⟩, World.ownsRow_nil _ _ _ _, Below.refl _ _⟩
  case round =>
    obtain ⟨k, hk, rfl, n, hn, ⟨A, c, rfl⟩, ho, hb⟩ := hrel
    have HO := Lib.hid ho; have HB := Lib.hid hb; have HN := Lib.hid hn
    clear ho hb hn
    by_cases hlt : k < l.length
    · obtain ⟨ad, c', e', _, q0, q1, q2, q3, q4, q5, q6, q7⟩ := (HV.out.below HB.out).item k hlt
      simp only [Value.slice.injEq, true_and] at e'
      obtain ⟨rfl, rfl⟩ := e'
      have HNL := Lib.hid (show n ≤ k by rw [HN.out]; exact Nat.le_trans (liveI_len _) (by rw [List.length_take]; omega))
      cases hgk : l[k].g with
      | true =>
        have HS := Lib.hid (liveI_gone hlt hgk)
        rw [hgk] at q7
        clear hgk
        generalize l[k] = x at q0 q1 q2 q3 q4 q5 q6
        go_wp2
        go_roundw
        case rel => exact ⟨k + 1, by omega, by go_num, n, by rw [HS.out]; exact HN.out, ⟨_, _, rfl⟩, by rw [HS.out]; exact World.ownsRow.alloc HO.out _, ball HB.out _ HB.out.size⟩
        case measure => simp [intOf]; omega
      | false =>
        have HS := Lib.hid (liveI_live hlt hgk)
        rw [hgk] at q7
        clear hgk
        generalize l[k] = x at q0 q1 q2 q3 q4 q5 q6
        go_wp2_with (at_builtin; refine list_append_sl intType _ rfl _ _ rfl w.heap.size (.slice A n c) n _ rfl (World.ownsRow.alloc (World.ownsRow.alloc HO.out _) _) _ encI _ [(k : Int)] rfl (sl_single (heap_two _ _ _) 1 encI (k : Int) rfl) encI_len encI_one' ?c3 ?c4 ?c5 ?_)
        case c3 => have := HNL.out; simp; unfold maxLen; omega
        case c4 => have := HNL.out; simp; omega
        case c5 => have := HB.out.size; simp; omega
        intro v3 w3 g3
        obtain ⟨A', c', rfl⟩ := g3.form
        have HO3 := Lib.hid g3.1
        have HB3 := Lib.hid (show Below w.heap.size w w3 from Below.trans (show Below w.heap.size w ((wr.alloc _).alloc _) from ball (ball HB.out _ HB.out.size) _ (by have := HB.out.size; simp; omega)) (g3.below (fun g hgg => (World.ownsRow.lt HO.out g hgg).1) (by have := HB.out.size; simp; omega)))
        clear g3 q0 q1 q2 q3 q4 q5 q6 q7
        go_wp2
        go_roundw
        case rel => exact ⟨k + 1, by omega, by go_num, n + 1, by rw [HS.out, List.length_append, ← HN.out]; rfl, ⟨_, _, rfl⟩, by rw [HS.out, List.flatMap_append]; exact HO3.out, HB3.out⟩
        case measure => simp [intOf]; omega
    · have hks : k = l.length := by omega
      subst hks
      go_wp2
      go_ret
      refine ⟨_, rfl, ?_, HB.out⟩
      have h := HO.out
      rw [HN.out] at h
      rw [List.take_length] at h
      unfold Ow
      rw [HN.out, List.take_length]
      exact h

theorem own_other {w w' : World} {b base E k n : Nat} {v : Value} {xs : List Value} (h : w.ownsRow base E k v n xs) (ho : ∀ j cs E, E ≠ 5 → j ≠ b → w.heap[j]? = some (.cells cs E (0, 0)) → w'.heap[j]? = some (.cells cs E (0, 0))) (hE : E ≠ 5) (hb : b < base) : w'.ownsRow base E k v n xs := by
  refine ⟨h.1, ?_⟩
  rcases h.2 with hn | ⟨g, cap, cur, rfl, hg, hgg, rest⟩
  · exact .inl hn
  · exact .inr ⟨g, cap, cur, rfl, hg, ho g cur E hE (by omega) hgg, rest⟩

set_option maxRecDepth 100000 in
set_option maxHeartbeats 4000000 in
theorem impl_textOf (v : Value) (d : Dc) (w : World) (hv : DcAt w w.heap.size v d) (hf : Fit d) :
    Calls Try.prog 10 #[v] w (Back (.string (textD d)) w) := by
  have HD := Lib.hid (fun W (hb : Below w.heap.size w W) => impl_docF v d W ((hv.below hb).more hb.size) hf)
  obtain ⟨vx, vp, vh, rfl, hx, hp, hh⟩ := hv
  have HLV := Lib.hid (fun (h : d.X.length ≤ 1048576) W (hb : Below w.heap.size w W) => impl_live vx d.X W ((hx.below hb).more hb.size) h)
  obtain ⟨A1, k1, rfl⟩ := hx.form; obtain ⟨A2, k2, rfl⟩ := hp.form; obtain ⟨A3, k3, rfl⟩ := hh.form
  have HV := Lib.hid hx
  clear hx hp hh hf
  have HL := Lib.hid ((Lg.start w).alloc (.cells #[.slice A1 d.X.length k1, .slice A2 d.P.length k2, .slice A3 d.H.length k3] 29))
  cases hd : docB d with
  | false =>
    replace HD := Lib.hid (fun W hb => (HD.out W hb).mono fun _ _ h => Tell.to h hd)
    have HE := Lib.hid (textD_no hd); clear hd
    go_enter Try.func10, Try.ntmps10
    go_wp2_with fail
    refine (HD.out _ HL.out.bel).mono ?_
    rintro e w1 ⟨rfl, hb1⟩
    replace HL := Lib.hid (HL.out.lift hb1); clear hb1
    go_wp2
    go_ret
    exact ⟨ret_str HE.out.symm, HL.out.bel⟩
  | true =>
    replace HD := Lib.hid (fun W hb => (HD.out W hb).mono fun _ _ h => Tell.to h hd)
    have HE := Lib.hid (textD_yes hd)
    have hdp := (docB_iff d).1 hd
    have HO1 := Lib.hid (items_ones hdp.1)
    have h60 := hdp.1.1
    replace HLV := Lib.hid (HLV.out (by omega)); clear hd hdp
    go_enter Try.func10, Try.ntmps10
    go_wp2_with fail
    refine (HD.out _ HL.out.bel).mono ?_
    rintro e w1 ⟨rfl, hb1⟩
    have hL1 := HL.out.lift hb1
    have hlt1 := block_lt (hL1.blk _ List.mem_cons_self)
    replace HL := Lib.hid (hL1.alloc (.cells #[.pointer none, .slice none 0 0] 75)); clear hb1 hL1
    obtain ⟨x0, x1, x2⟩ := box3 (HL.out.blk _ (List.mem_cons_of_mem _ List.mem_cons_self))
    go_wp2_with fail
    refine (HLV.out _ HL.out.bel).mono ?_
    rintro e w2 ⟨lv, rfl, ho, hb2⟩
    obtain ⟨AL, cL, rfl⟩ := ho.form
    obtain ⟨b, hb⟩ : ∃ b, b = w1.heap.size := ⟨_, rfl⟩
    have hLL := HL.out.lift hb2
    rw [← hb] at hLL
    have ho' := ho.base (show b + 1 ≤ (w1.alloc (.cells #[.pointer none, .slice none 0 0] 75)).heap.size by simp [hb])
    have HO := Lib.hid ho'
    have HB0 := Lib.hid (show w.heap.size < b by rw [hb]; exact hlt1)
    have HBD := Lib.hid (show Lib.IsBuilder 75 5 b b [] w2 from .inl ⟨Nat.le_refl _, .slice none 0 0, hLL.blk _ List.mem_cons_self, World.ownsRow_nil _ _ _ _, by simp [Value.ownBlock]⟩)
    have HG := Lib.hid (hLL.blk _ (List.mem_cons_of_mem _ List.mem_cons_self))
    have HB := Lib.hid hLL.bel
    have HLLN := Lib.hid (show (liveI d.X).length ≤ 60 from Nat.le_trans (liveI_len _) h60)
    clear ho ho' hb2 hLL x0 x1 x2 HL
    rw [← hb]
    clear hlt1 hb
    go_wp2
    go_loopw [13] (fun i wr => ∃ k : Nat, k ≤ (liveI d.X).length ∧ i = .int .i64 k ∧ Lib.IsBuilder 75 5 b b (Lib.byteCells (textAt d.X ((liveI d.X).take k))) wr ∧ Ow wr (b + 1) 3 1 encI (.slice AL (liveI d.X).length cL) (liveI d.X) ∧ wr.heap[w.heap.size]? = some (.cells #[.slice A1 d.X.length k1, .slice A2 d.P.length k2, .slice A3 d.H.length k3] 29 (0, 0)) ∧ Below w.heap.size w wr) (fun i _ => (liveI d.X).length - (intOf i).toNat)
    case atStart => exact ⟨0, Nat.zero_le _, rfl, by simpa [textAt, Lib.byteCells] using HBD.out, HO.out, HG.out, HB.out⟩
    case round =>
      clear HBD HO HG HB
      obtain ⟨k, hk, rfl, hbd, ho, hg, hb⟩ := hrel
      have HBD := Lib.hid hbd; have HO := Lib.hid ho; have HG := Lib.hid hg; have HB := Lib.hid hb
      obtain ⟨x0, x1, x2⟩ := box3 hg
      clear hbd ho hg hb
      by_cases hlt : k < (liveI d.X).length
      · obtain ⟨al, cl, el, _, y0⟩ := (HO.out.sl encI_len).one k hlt
        simp only [Value.slice.injEq, true_and] at el
        obtain ⟨rfl, rfl⟩ := el
        obtain ⟨n, hn, hln, hgn⟩ := liveI_at hlt
        rw [hln] at y0
        obtain ⟨ad, c', e', _, -, -, -, -, -, -, c6, -⟩ := (HV.out.below HB.out).item n hn
        simp only [Value.slice.injEq, true_and] at e'
        obtain ⟨rfl, rfl⟩ := e'
        have HS := Lib.hid (textAt_snoc hlt hn hln)
        have HLT := Lib.hid hlt
        have hk60 : k < 1000 := by have := HLLN.out; omega
        have hone := HO1.out _ (getElem_mem' d.X n hn)
        obtain ⟨t, ht⟩ : ∃ t, t = d.X[n].t := ⟨_, rfl⟩
        rw [← ht] at c6 HS hone
        have HON := Lib.hid hone
        clear ht hln hgn hone
        have HW := Lib.hid (bld_write b b _ t wr HBD.out (by
          have h1 := textAt_len HO1.out ((liveI d.X).take k)
          have h2 := HON.out; have h3 := HLLN.out
          rw [Lib.byteCells_length]
          rw [List.length_take] at h1
          omega) (by have := HO.out; have h1 := HBD.out; rcases h1 with h1 | h1 <;> exact Nat.le_of_lt h1.lt))
        go_wp2_with fail
        refine (HW.out).mono ?_
        rintro e w5 ⟨rfl, h5, hb5, ho5⟩
        have HBD5 := Lib.hid (show Lib.IsBuilder 75 5 b b (Lib.byteCells (textAt d.X ((liveI d.X).take (k + 1)))) w5 from .inr (by rw [HS.out]; unfold Lib.byteCells; rw [List.map_append]; exact h5))
        have HO5 := Lib.hid (show Ow w5 (b + 1) 3 1 encI (.slice (some al) (liveI d.X).length cL) (liveI d.X) from own_other HO.out ho5 (by decide) (by omega))
        have HG5 := Lib.hid (show w5.heap[w.heap.size]? = _ from (hb5.block _ HB0.out).trans HG.out)
        have HB5 := Lib.hid (HB.out.trans (hb5.mono (Nat.le_of_lt HB0.out)))
        clear h5 hb5 ho5 x0 x1 x2 y0 c6
        go_wp2
        go_roundw
        case rel => exact ⟨k + 1, by have := HLT.out; omega, by go_num, HBD5.out, HO5.out, HG5.out, HB5.out⟩
        case measure => have := HLT.out; simp [intOf]; omega
      · have hks : k = (liveI d.X).length := by omega
        subst hks
        have HST := Lib.hid (bld_string b b (textAt d.X ((liveI d.X).take (liveI d.X).length)) wr HBD.out (by rcases HBD.out with h1 | h1 <;> exact Nat.le_of_lt h1.lt))
        go_wp2_with fail
        refine (HST.out).mono ?_
        rintro e w5 ⟨rfl, hb5⟩
        have HB5 := Lib.hid (HB.out.trans (hb5.mono (Nat.le_of_lt HB0.out)))
        clear hb5
        go_wp2
        go_ret
        exact ⟨ret_str (by rw [HE.out]; first | (rw [List.take_length, textAt_live]; rfl) | (rw [textAt_live]; rfl)), HB5.out⟩

end Go.Proofs.Ytghiipoeedfkhaa
