/-
  The area as data: what is read behind a format and a put; what its laws need.
-/
import Derived.Test.YthchlfllcnlmjaaGreatDoorPutM
import Derived.Test.YthchlfllcnlmjaaGreatDoorSealFacts
import Derived.Test.YthchlfllcnlmjaaGreatDoorAreaDraws
import Derived.Test.YthchlfllcnlmjaaGreatDoorRoom
/-! What is put is read again; a formatted disk has no text: as data. -/
namespace Go.Proofs.YthchlfllcnlmjaaGreatDoor
open Go.RowKit

theorem wr_readT {d : Dk} {a : Int} {t : ByteArray} (h : (writeDo d a t).code = 0) (k : Nat) : readT (writeDo d a t).dk k = if (k : Int) = a then t else readT d k := by
  by_cases h8 : 8000 < t.size
  · rw [write_size h8] at h; cases h
  · by_cases hR : Right d ∧ t.size ≤ 64
    · by_cases hA : 0 ≤ a ∧ a < d.S.length
      · by_cases hf : d.P.length = 200
        · rw [write_full hR.1 hR.2 hA hf] at h; cases h
        · rw [write_ok hR.1 hR.2 hA hf]
          unfold readT
          simp only [lastOf_snoc]
          by_cases hk : a = (k : Int)
          · rw [if_pos hk, if_pos hk.symm]; rfl
          · rw [if_neg hk, if_neg (fun e => hk e.symm)]
      · rw [write_range hR.1 hR.2 hA] at h; cases h
    · rw [write_form h8 hR] at h; cases h
theorem fl_readT {d : Dk} (hR : Right d) (k : Nat) (hk : k < d.S.length) : readT (flushDo d).dk k = readT d k := by
  rw [flush_ok hR]
  unfold readT
  simp only [lastOf_nil, Option.getD_none]
  rw [List.getD_eq_getElem?_getD, flushS_get _ _ k hk, Option.getD_some, List.getD_eq_getElem?_getD, List.getElem?_eq_getElem hk, Option.getD_some]

theorem body_seal (x : ByteArray) : bodyB (sealB x) = x := by
  apply ba_ext
  rw [bodyB_list, sealB_list, sealB_size, List.take_left' (by rw [ba_len]; omega)]
theorem tail_seal (x : ByteArray) : tailB (sealB x) = sumB x := by
  apply ba_ext
  have h := (sealB_list x)
  rw [tailB_list, h, sealB_size, List.drop_left' (by rw [ba_len]; omega)]
  have h2 : (catB x (sumB x)).data.toList = x.data.toList ++ four (crcOn 0 x.data.toList) := h
  rw [cat_list] at h2
  exact (List.append_cancel_left h2).symm
/-- A head that is put is seen. -/
theorem seen_head {g s n : Int} {room : Nat} (hg : I64 g) (hg0 : 0 ≤ g) (hs : 0 ≤ s ∧ s ≤ 1) (hn : 0 ≤ n ∧ n ≤ room) (hr : room ≤ 1000000) : seenH (headB g s n) room = (g, s, n, 0) := by
  obtain ⟨b, hb⟩ : ∃ b, b = catB (catB (numB g) (numB s)) (numB n) := ⟨_, rfl⟩
  have e : headB g s n = sealB b := by rw [hb]; rfl
  have hl : b.data.toList = putNum g ++ (putNum s ++ (putNum n ++ [])) := by
    rw [hb, cat_list, cat_list, List.append_nil, List.append_assoc]
  have hz : b.size ≤ 8000 := by
    have h1 := (num_size g).2; have h2 := (num_size s).2; have h3 := (num_size n).2
    rw [hb, cat_size, cat_size]; omega
  have h1 := getNum_back b 0 g (putNum s ++ (putNum n ++ [])) hz hg.1 hg.2 hl
  rw [Nat.zero_add] at h1
  have d1 : b.data.toList.drop (putNum g).length = putNum s ++ (putNum n ++ []) := by rw [hl, List.drop_left]
  have h2 := getNum_back b (putNum g).length s (putNum n ++ []) hz (by omega) (by omega) d1
  have d2 : b.data.toList.drop ((putNum g).length + (putNum s).length) = putNum n ++ [] := by rw [← List.drop_drop, d1, List.drop_left]
  have h3 := getNum_back b ((putNum g).length + (putNum s).length) n [] hz (by omega) (by omega) d2
  have ht := three_of_get h1 h2 h3
  rw [if_pos ⟨rfl, rfl, rfl⟩] at ht
  have hsz : b.size = (putNum g).length + (putNum s).length + (putNum n).length := by
    rw [← ba_len, hl, List.length_append, List.length_append, List.length_append]
    simp; omega
  rw [e]
  have h4 : ¬ (sealB b).size < 4 := by rw [sealB_size]; omega
  refine seen_some h4 (by rw [body_seal, tail_seal]) (by rw [body_seal]; exact ht) ⟨?_, hg0, hs.1, hs.2, hn.1, hn.2⟩
  rw [body_seal, hsz]

theorem half_le {d : Dk} (h : Right d) : halfN d ≤ 31 := by have := h.2.1; unfold halfN; omega
theorem head_seen {d : Dk} (hR : Right d) {g s n : Int} (h0 : readT d 0 = headB g s n) (hg : I64 g) (hg0 : 0 ≤ g) (hs : 0 ≤ s ∧ s ≤ 1) (hn : 0 ≤ n ∧ n ≤ (64 * halfN d : Nat)) : seenH (readT d 0) (64 * halfN d) = (g, s, n, 0) := by
  rw [h0]
  exact seen_head hg hg0 hs hn (by have := half_le hR; omega)

/-- A formatted disk has no text. -/
theorem format_read {d : Dk} (hz : (formatAo d).code = 0) : readAo (formatAo d).dk = ⟨(formatAo d).dk, ⟨#[]⟩, 0, 0⟩ := by
  by_cases hR : Right d
  · by_cases h3 : d.S.length < 3
    · rw [format_full hR h3] at hz; cases hz
    · by_cases hc : (fmtDo d).code = 0
      · rw [format_ok hR h3 hc]
        simp only
        have hw : Right (fmtDo d).dk := write_right 0 (headB 0 0 0) hc
        have hl : (fmtDo d).dk.S.length = d.S.length := write_len hc
        obtain ⟨hfr, hfl⟩ := flush_right hw
        have h0 : readT (flushDo (fmtDo d).dk).dk 0 = headB 0 0 0 := by
          rw [fl_readT hw 0 (by omega)]
          exact (wr_readT hc 0).trans (if_pos rfl)
        have hse := head_seen hfr h0 ⟨by omega, by omega⟩ (by omega) ⟨by omega, by omega⟩ ⟨by omega, by omega⟩
        have := readAo_ok (s := 0) (n := 0) hfr hse (fun i hi => absurd hi (by unfold partsN; omega))
        rw [this]
        rfl
      · rw [format_ill hR h3 hc] at hz
        exact absurd hz hc
  · rw [format_form hR] at hz; cases hz

/-- The i-th part of a text. -/
def partB (t : ByteArray) (i : Nat) : ByteArray := t.extract (64 * i) (min (64 * i + 64) t.size)
theorem part_size (t : ByteArray) (i : Nat) (hi : i < partsN t.size) : (partB t i).size = partN t.size i := by
  unfold partB partN
  rw [ByteArray.size_extract]
  unfold partsN at hi
  omega
/-- What stands where, behind the first j steps of a put. -/
theorem put_texts {f : Nat} {g s : Int} {t : ByteArray} {d : Dk} : ∀ (j : Nat) (cur : Dk), j ≤ partsN t.size → putRun f g s t j d = (0, cur) → ∀ i < j, readT cur (f + i) = partB t i
  | 0, _, _, _, i, hi => absurd hi (by omega)
  | j + 1, cur, hj, h, i, hi => by
    obtain ⟨⟨c, d'⟩, hc⟩ : ∃ x, putRun f g s t j d = x := ⟨_, rfl⟩
    have h0 : c = 0 := by
      apply Classical.byContradiction
      intro h0
      rw [putRun, hc] at h
      simp only at h
      rw [if_neg h0] at h
      exact h0 (Prod.mk.inj h).1
    subst h0
    have hy : (putDo f g s t j d').code = 0 := by
      apply Classical.byContradiction
      intro hy
      rw [putRun_ill hc hy (j + 1) (by omega)] at h
      exact hy (Prod.mk.inj h).1
    rw [putRun_ok hc hy] at h
    obtain rfl := (Prod.mk.inj h).2
    rw [putDo_text (by omega)] at hy ⊢
    rw [wr_readT hy]
    by_cases hij : i = j
    · subst hij
      rw [if_pos rfl]; rfl
    · rw [if_neg (by omega)]
      exact put_texts j d' (by omega) hc i (by omega)
/-- The next step, from a disk that is right. -/
theorem putRun_step {f : Nat} {g s : Int} {t : ByteArray} {d cur : Dk} {j : Nat} (h : putRun f g s t (j + 1) d = (0, cur)) : ∃ d', putRun f g s t j d = (0, d') ∧ (putDo f g s t j d').code = 0 ∧ cur = (putDo f g s t j d').dk := by
  obtain ⟨⟨c, d'⟩, hc⟩ : ∃ x, putRun f g s t j d = x := ⟨_, rfl⟩
  have h0 : c = 0 := by
    apply Classical.byContradiction
    intro h0
    rw [putRun, hc] at h
    simp only at h
    rw [if_neg h0] at h
    exact h0 (Prod.mk.inj h).1
  subst h0
  have hy : (putDo f g s t j d').code = 0 := by
    apply Classical.byContradiction
    intro hy
    rw [putRun_ill hc hy (j + 1) (by omega)] at h
    exact hy (Prod.mk.inj h).1
  rw [putRun_ok hc hy] at h
  exact ⟨d', hc, hy, (Prod.mk.inj h).2.symm⟩
theorem got_parts {d : Dk} {f : Nat} {t : ByteArray} (h : ∀ i < partsN t.size, readT d (f + i) = partB t i) : ∀ j, j ≤ partsN t.size → gotB d f t.size j = t.extract 0 (min (64 * j) t.size)
  | 0, _ => by
    rw [gotB]
    apply ba_ext
    simp
  | j + 1, hj => by
    rw [gotB, got_parts h j (by omega), h j (by omega)]
    have hjp : 64 * j < t.size := by unfold partsN at hj; omega
    have e1 : (partB t j).extract 0 (partN t.size j) = partB t j := by
      rw [← part_size t j (by omega)]
      exact ByteArray.extract_zero_size
    rw [e1]
    apply ba_ext
    rw [cat_list]
    unfold partB
    rw [ByteArray.data_extract, ByteArray.data_extract, ByteArray.data_extract, Array.toList_extract, Array.toList_extract, Array.toList_extract]
    simp only [List.extract_eq_take_drop, List.drop_zero, Nat.sub_zero]
    have e2 : min (64 * j) t.size = 64 * j := by omega
    have e3 : min (64 * j + 64) t.size - 64 * j + 64 * j = min (64 * (j + 1)) t.size := by omega
    rw [e2, ← e3, Nat.add_comm _ (64 * j), List.take_add]
/-- What is put with all steps is read again, of the next number. -/
theorem put_read {d : Dk} {t : ByteArray} {steps : Int} (hs : 1000 ≤ steps) (hz : (putAo d t steps).code = 0) : ∃ x g, readAo d = ⟨d, x, g, 0⟩ ∧ readAo (putAo d t steps).dk = ⟨(putAo d t steps).dk, t, g + 1, 0⟩ := by
  by_cases h8 : 8000 < t.size
  · rw [putAo_size h8] at hz; cases hz
  by_cases hR : Right d
  rotate_left
  · rw [putAo_form h8 hR] at hz; cases hz
  obtain ⟨g, s, n, c, hse, hcs⟩ := seen_cases (d := d)
  rcases hcs with ⟨hc, rfl, rfl, rfl⟩ | ⟨rfl, hg0, hgi, s, n, rfl, rfl, hs1, hn⟩
  · rw [putAo_read h8 hR (readAo_ill hR hse hc) hc] at hz
    exact absurd hz hc
  rcases Classical.em (∀ i < partsN n, fullAt d (firstN d s) n i) with hfull | hfull
  rotate_left
  · obtain ⟨i, hi, hfi⟩ : ∃ i, i < partsN n ∧ ¬ fullAt d (firstN d s) n i := by
      apply Classical.byContradiction
      intro h'
      exact hfull fun i hi => Classical.byContradiction fun hf => h' ⟨i, hi, hf⟩
    rw [putAo_read h8 hR (readAo_sum hR hse hi hfi) (by decide)] at hz
    cases hz
  have hA := readAo_ok hR hse hfull
  by_cases hfit : 64 * halfN d < t.size ∨ 1000000 ≤ g
  · rw [putAo_full h8 hR hA hfit] at hz; cases hz
  refine ⟨_, g, hA, ?_⟩
  rw [putAo_run h8 hR hA hfit hse hs1] at hz ⊢
  obtain ⟨s2, hs2⟩ : ∃ x, x = 1 - s := ⟨_, rfl⟩
  rw [← hs2] at hz ⊢
  obtain ⟨f, hf⟩ : ∃ x, x = firstN d s2 := ⟨_, rfl⟩
  rw [← hf] at hz ⊢
  have hhl := half_le hR
  have hpn : partsN t.size ≤ 31 := by unfold partsN; omega
  have hN : putN t steps = partsN t.size + 3 := by unfold putN; omega
  rw [hN] at hz ⊢
  by_cases hr : (putRun f (g + 1) (s2 : Int) t (partsN t.size + 3) d).1 = 0
  rotate_left
  · rw [if_neg hr] at hz
    exact absurd hz hr
  rw [if_pos hr]
  simp only
  obtain ⟨D, hD⟩ : ∃ D, putRun f (g + 1) (s2 : Int) t (partsN t.size + 3) d = (0, D) := ⟨_, Prod.ext hr rfl⟩
  rw [hD]
  simp only
  obtain ⟨D2, hD2, hc2, rfl⟩ := putRun_step hD
  obtain ⟨D1, hD1, hc1, rfl⟩ := putRun_step hD2
  obtain ⟨D0, hD0, hc0, rfl⟩ := putRun_step hD1
  obtain ⟨r0, l0⟩ := putRun_right hR _ _ hD0
  have htx := put_texts _ _ (Nat.le_refl _) hD0
  have e0 : ∀ X, putDo f (g + 1) (s2 : Int) t (partsN t.size) X = flushDo X := fun X => putDo_flush (by omega) (by omega)
  have e1 : ∀ X, putDo f (g + 1) (s2 : Int) t (partsN t.size + 1) X = writeDo X 0 (headB (g + 1) (s2 : Int) (t.size : Int)) := fun X => putDo_head rfl
  have e2 : ∀ X, putDo f (g + 1) (s2 : Int) t (partsN t.size + 2) X = flushDo X := fun X => putDo_flush (by omega) (by omega)
  rw [e0, e1] at hc1
  rw [e0, e1, e2]
  clear hD1 hD2 hc2 hc0
  obtain ⟨r1, l1⟩ := flush_right r0
  have r2 := write_right _ _ hc1
  have l2 := write_len hc1
  obtain ⟨r3, l3⟩ := flush_right r2
  obtain ⟨E, hE⟩ : ∃ E, E = (flushDo (writeDo (flushDo D0).dk 0 (headB (g + 1) (s2 : Int) (t.size : Int))).dk).dk := ⟨_, rfl⟩
  rw [← hE]
  rw [← hE] at r3 l3
  have hlen : E.S.length = d.S.length := by rw [l3, l2, l1, l0]
  have hhalf : halfN E = halfN d := by unfold halfN; rw [hlen]
  have hfe : f = firstN E s2 := by rw [hf]; unfold firstN; rw [hhalf]
  have hrd : ∀ k, k < d.S.length → readT E k = if k = 0 then headB (g + 1) (s2 : Int) (t.size : Int) else readT D0 k := fun k hk => by
    rw [hE, fl_readT r2 k (by omega), wr_readT hc1]
    by_cases h0 : k = 0
    · rw [if_pos (by omega), if_pos h0]
    · rw [if_neg (by omega), if_neg h0, fl_readT r0 k (by omega)]
  have hf1 : 1 ≤ f := by rw [hf]; unfold firstN; omega
  have hh0 : readT E 0 = headB (g + 1) (s2 : Int) (t.size : Int) := by
    have := hR.1
    rw [hrd 0 (by omega), if_pos rfl]
  have hsee := head_seen r3 hh0 (by unfold I64; omega) (by omega) ⟨by omega, by omega⟩ ⟨by omega, by rw [hhalf]; omega⟩
  have hparts : ∀ i < partsN t.size, readT E (f + i) = partB t i := fun i hi => by
    have hlt := first_lt (d := d) (s := s2) hR (by omega) (by omega : t.size ≤ 64 * halfN d) hi
    rw [hrd (f + i) (by rw [hf]; exact hlt), if_neg (by omega)]
    exact htx i hi
  have := readAo_ok (s := s2) (n := t.size) r3 hsee (fun i hi => by
    unfold fullAt
    rw [← hfe, hparts i hi, part_size t i hi]
    exact Nat.le_refl _)
  rw [this, ← hfe, got_parts hparts _ (Nat.le_refl _)]
  congr 1
  rw [show min (64 * partsN t.size) t.size = t.size by unfold partsN; omega]
  exact ByteArray.extract_zero_size

end Go.Proofs.YthchlfllcnlmjaaGreatDoor

/-! What the laws of the area need of the answers: bounds, and what is read behind a put and a format. -/
namespace Go.Proofs.YthchlfllcnlmjaaGreatDoor
open Go.RowKit

theorem put_lim (d : Dk) (a1 : ByteArray) (a2 : Int) : (putAo d a1 a2).dk.S.length ≤ 1048576 ∧ (putAo d a1 a2).dk.P.length ≤ 1048577 := by
  by_cases h8 : 8000 < a1.size
  · rw [putAo_size h8]; simp [illAo]
  by_cases hR : Right d
  · obtain ⟨g, s, n, c, hse, hcs⟩ := seen_cases (d := d)
    rcases hcs with ⟨hc, rfl, rfl, rfl⟩ | ⟨rfl, hg0, hgi, s, n, rfl, rfl, hs1, hn⟩
    · rw [putAo_read h8 hR (readAo_ill hR hse hc) hc]; simp [illAo]
    · rcases Classical.em (∀ i < partsN n, fullAt d (firstN d s) n i) with hfull | hfull
      · have hA := readAo_ok hR hse hfull
        by_cases hfit : 64 * halfN d < a1.size ∨ 1000000 ≤ g
        · rw [putAo_full h8 hR hA hfit]; simp [illAo]
        · rw [putAo_run h8 hR hA hfit hse hs1]
          split
          · rename_i h0
            obtain ⟨h1, h2⟩ := putRun_right hR _ _ (Prod.ext h0 rfl)
            have h3 := h1.2.1; have h4 := h1.2.2.1
            exact ⟨Nat.le_trans h3 (by decide), Nat.le_trans h4 (by decide)⟩
          · simp [illAo]
      · obtain ⟨i, hi, hfi⟩ : ∃ i, i < partsN n ∧ ¬ fullAt d (firstN d s) n i := by
          apply Classical.byContradiction
          intro h'
          exact hfull fun i hi => Classical.byContradiction fun hf => h' ⟨i, hi, hf⟩
        rw [putAo_read h8 hR (readAo_sum hR hse hi hfi) (by decide)]; simp [illAo]
  · rw [putAo_form h8 hR]; simp [illAo]

set_option maxRecDepth 100000 in
set_option maxHeartbeats 16000000 in
theorem form_lim (d : Dk) : (formatAo d).dk.S.length ≤ 1048576 ∧ (formatAo d).dk.P.length ≤ 1048577 := by
  by_cases hR : Right d
  · by_cases h3 : d.S.length < 3
    · rw [format_full hR h3]; simp [illAo]
    · by_cases hc : (fmtDo d).code = 0
      · rw [format_ok hR h3 hc]
        exact flush_small _ (right_small' (write_right 0 (headB 0 0 0) hc))
      · rw [format_ill hR h3 hc]; simp [illAo]
  · rw [format_form hR]; simp [illAo]
theorem read_lim (d : Dk) (h : Small d) : (readAo d).dk.S.length ≤ 1048576 ∧ (readAo d).dk.P.length ≤ 1048577 := by
  classical
  have h1 := h.1; have h2 := h.2.2.1
  unfold readAo
  repeat' split
  all_goals first | (simp [illAo]; done) | (simp only; omega)
theorem form_right {d : Dk} (h : (formatAo d).code = 0) : Right (formatAo d).dk := by
  by_cases hR : Right d
  · by_cases h3 : d.S.length < 3
    · rw [format_full hR h3] at h; cases h
    · by_cases hc : (fmtDo d).code = 0
      · rw [format_ok hR h3 hc]
        exact (flush_right (write_right 0 (headB 0 0 0) hc)).1
      · rw [format_ill hR h3 hc] at h
        exact absurd h hc
  · rw [format_form hR] at h; cases h
theorem read_right {d : Dk} (h : (readAo d).code = 0) : Right d := by
  refine Classical.byContradiction fun hR => ?_
  rw [readAo_form hR] at h
  cases h
/-- A text that has no room is refused so. -/
theorem put_room {d : Dk} {t : ByteArray} {steps : Int} (ht : t.size ≤ 3000) (h : (readAo d).code = 0) (hr : roomN d < t.size) : (putAo d t steps).code = 9 := by
  have hR := read_right h
  rw [roomN_yes hR] at hr
  classical
  unfold putAo
  rw [if_neg (by omega), if_neg (fun h' => h' hR), if_neg (fun h' => h' h), if_pos (.inl hr)]
  rfl
/-- What is read behind a put of all steps. -/
theorem put_back {d : Dk} {t : ByteArray} (h : (putAo d t 1000).code = 0) : readAo (putAo d t 1000).dk = ⟨(putAo d t 1000).dk, t, (readAo d).gen + 1, 0⟩ := by
  obtain ⟨x, g, h1, h2⟩ := put_read (steps := 1000) (by omega) h
  rw [h2, h1]
theorem put_gen {d : Dk} {t : ByteArray} {steps : Int} (h : (putAo d t steps).code = 0) : 0 ≤ (readAo d).gen ∧ (readAo d).gen < 1000000 := by
  by_cases h8 : 8000 < t.size
  · rw [putAo_size h8] at h; cases h
  by_cases hR : Right d
  · obtain ⟨g, s, n, c, hse, hcs⟩ := seen_cases (d := d)
    rcases hcs with ⟨hc, rfl, rfl, rfl⟩ | ⟨rfl, hg0, hgi, s, n, rfl, rfl, hs1, hn⟩
    · rw [putAo_read h8 hR (readAo_ill hR hse hc) hc] at h
      exact absurd h hc
    · rcases Classical.em (∀ i < partsN n, fullAt d (firstN d s) n i) with hfull | hfull
      · have hA := readAo_ok hR hse hfull
        by_cases hfit : 64 * halfN d < t.size ∨ 1000000 ≤ g
        · rw [putAo_full h8 hR hA hfit] at h; cases h
        · rw [hA]
          exact ⟨by simp only; omega, by simp only; omega⟩
      · obtain ⟨i, hi⟩ := Classical.not_forall.1 hfull
        obtain ⟨hi, hf⟩ := Classical.not_imp.1 hi
        rw [putAo_read h8 hR (readAo_sum hR hse hi hf) (by omega)] at h
        cases h
  · rw [putAo_form h8 hR] at h; cases h

end Go.Proofs.YthchlfllcnlmjaaGreatDoor
