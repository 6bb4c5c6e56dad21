/-
  A put that the power cut short, as data: what is read behind the crash.
-/
import Derived.Test.YthchlfllcnlmjaaGreatDoorAreaM
namespace Go.Proofs.YthchlfllcnlmjaaGreatDoor
open Go.RowKit

theorem gotB_same {c d : Dk} {f n : Nat} : ∀ k, (∀ i < k, readT c (f + i) = readT d (f + i)) → gotB c f n k = gotB d f n k
  | 0, _ => rfl
  | k + 1, h => by
    rw [gotB, gotB, gotB_same k (fun i hi => h i (by omega)), h k (by omega)]
/-- AreaRead looks at the head and at its own side alone. -/
theorem read_same {c d : Dk} {g : Int} {s n : Nat} (hc : Right c) (hl : c.S.length = d.S.length) (hse : seenH (readT d 0) (64 * halfN d) = (g, (s : Int), (n : Int), 0)) (hf : ∀ i < partsN n, fullAt d (firstN d s) n i) (h0 : readT c 0 = readT d 0) (hs : ∀ i < partsN n, readT c (firstN d s + i) = readT d (firstN d s + i)) :
    readAo c = ⟨c, gotB d (firstN d s) n (partsN n), g, 0⟩ := by
  have hh : halfN c = halfN d := by unfold halfN; rw [hl]
  have hfi : firstN c s = firstN d s := by unfold firstN; rw [hh]
  rw [← gotB_same (c := c) _ hs, ← hfi]
  refine readAo_ok hc (by rw [h0, hh]; exact hse) (fun i hi => ?_)
  have h := hf i hi
  unfold fullAt at h ⊢
  rw [hfi, hs i hi]
  exact h
/-- The new text is read where the new head and the text's parts stand. -/
theorem read_new {c d : Dk} {g : Int} {s : Nat} {t : ByteArray} (hc : Right c) (hl : c.S.length = d.S.length) (hs : s ≤ 1) (hg0 : 0 ≤ g) (hg1 : g < 1000000) (hfit : t.size ≤ 64 * halfN d) (h0 : readT c 0 = headB (g + 1) (s : Int) (t.size : Int)) (hp : ∀ i < partsN t.size, readT c (firstN d s + i) = partB t i) :
    readAo c = ⟨c, t, g + 1, 0⟩ := by
  have hh : halfN c = halfN d := by unfold halfN; rw [hl]
  have hfi : firstN c s = firstN d s := by unfold firstN; rw [hh]
  have hsee := head_seen hc h0 (by unfold I64; omega) (by omega) ⟨by omega, by omega⟩ ⟨by omega, by rw [hh]; omega⟩
  rw [← hfi] at hp
  have := readAo_ok (s := s) (n := t.size) hc hsee (fun i hi => by
    unfold fullAt
    rw [hp i hi, part_size t i hi]
    exact Nat.le_refl _)
  rw [this, got_parts hp _ (Nat.le_refl _)]
  congr 1
  rw [show min (64 * partsN t.size) t.size = t.size by unfold partsN; omega]
  apply ba_ext
  simp
theorem last_none {P : List Pd} {k : Nat} (h : ∀ p ∈ P, p.1 ≠ (k : Int)) : lastOf P (k : Int) = none := by
  cases hl : lastOf P (k : Int) with
  | none => rfl
  | some t => exact absurd rfl (h _ (lastOf_mem P _ t hl))
/-- Where nothing is pending, a crash changes nothing. -/
theorem crash_other {X : Dk} {kl : List Int} {k : Nat} (hR : Right X) (hk : ¬ 400 < kl.length) (hlt : k < X.S.length) (h : ∀ p ∈ X.P, p.1 ≠ (k : Int)) : readT (crashDk X kl) k = readT X k := by
  rw [crash_ok hk hR]
  unfold readT
  rw [last_none h]
  simp only [lastOf_nil, Option.getD_none]
  have e := flushS_get X.S (kept X.P kl) k hlt
  rw [last_none (fun p hp => h p (kept_mem _ _ _ hp))] at e
  rw [List.getD_eq_getElem?_getD, List.getD_eq_getElem?_getD, e, List.getElem?_eq_getElem hlt]
  rfl
theorem crash_none {X : Dk} {kl : List Int} (hR : Right X) (hk : ¬ 400 < kl.length) (hP : X.P = []) : crashDk X kl = X := by
  rw [crash_ok hk hR, hP]
  obtain ⟨S, P⟩ := X
  simp only at hP
  subst hP
  rw [show kept [] kl = [] from rfl, flushS_nil]
/-- One write pending: it is kept, or it is not. -/
theorem crash_one {X : Dk} {kl : List Int} {p : Pd} (hR : Right X) (hk : ¬ 400 < kl.length) (hP : X.P = [p]) : crashDk X kl = ⟨X.S, []⟩ ∨ crashDk X kl = (flushDo X).dk := by
  rw [crash_ok hk hR, flush_ok hR, hP]
  by_cases h : 0 < kl.getD 0 0
  · right
    have e : kept [p] kl = [p] := by
      have := kept_take_yes [p] kl 0 (by simp) h
      simpa [kept] using this
    rw [e]
  · left
    have e : kept [p] kl = [] := by
      have := kept_take_no [p] kl 0 (by simp) h
      simpa [kept] using this
    rw [e, flushS_nil]
theorem write_adds {d : Dk} {a : Int} {t : ByteArray} (h : (writeDo d a t).code = 0) : (writeDo d a t).dk.S = d.S ∧ (writeDo d a t).dk.P = d.P ++ [(a, t)] := by
  by_cases h8 : 8000 < t.size
  · rw [write_size h8] at h; cases h
  · by_cases hR : Right d ∧ t.size ≤ 64
    · by_cases hA : 0 ≤ a ∧ a < d.S.length
      · by_cases hf : d.P.length = 200
        · rw [write_full hR.1 hR.2 hA hf] at h; cases h
        · rw [write_ok hR.1 hR.2 hA hf]
          exact ⟨rfl, rfl⟩
      · rw [write_range hR.1 hR.2 hA] at h; cases h
    · rw [write_form h8 hR] at h; cases h
/-- While the text is written, only its own sectors are pending. -/
theorem put_pending {f : Nat} {g s : Int} {t : ByteArray} {d : Dk} (hR : Right d) : ∀ (j : Nat) (cur : Dk), j ≤ partsN t.size → putRun f g s t j d = (0, cur) → cur.S = d.S ∧ ∀ p ∈ cur.P, p ∈ d.P ∨ ∃ i < j, p.1 = ((f + i : Nat) : Int)
  | 0, cur, _, h => by
    rw [putRun] at h
    obtain rfl : d = cur := (Prod.mk.inj h).2
    exact ⟨rfl, fun p hp => .inl hp⟩
  | j + 1, cur, hj, h => by
    obtain ⟨d', hd', hc, rfl⟩ := putRun_step h
    obtain ⟨i1, i2⟩ := put_pending hR j d' (by omega) hd'
    obtain ⟨r1, r2⟩ := putRun_right hR j d' hd'
    rw [putDo_text (by omega)] at hc ⊢
    obtain ⟨w1, w2⟩ := write_adds hc
    rw [w1, w2]
    refine ⟨i1, fun p hp => ?_⟩
    rcases List.mem_append.1 hp with hp | hp
    · rcases i2 p hp with h | ⟨i, hi, e⟩
      · exact .inl h
      · exact .inr ⟨i, by omega, e⟩
    · rw [List.mem_singleton.1 hp]
      exact .inr ⟨j, by omega, rfl⟩

theorem crash_len {X : Dk} {kl : List Int} (hR : Right X) (hk : ¬ 400 < kl.length) : (crashDk X kl).S.length = X.S.length := by
  rw [crash_ok hk hR]
  exact flushS_len _ _
theorem flush_P {X : Dk} (hR : Right X) : (flushDo X).dk.P = [] := by rw [flush_ok hR]
/-- Behind a put that the power cut short, whatever is kept: the text ahead, or the new one. -/
theorem put_torn {d : Dk} {t : ByteArray} {steps : Int} {kl : List Int} (hP : d.P = []) (hk : kl.length ≤ 400) (hz : (putAo d t steps).code = 0) :
    (readAo (crashDk (putAo d t steps).dk kl)).code = 0 ∧ (((readAo (crashDk (putAo d t steps).dk kl)).text = (readAo d).text ∧ (readAo (crashDk (putAo d t steps).dk kl)).gen = (readAo d).gen) ∨ ((readAo (crashDk (putAo d t steps).dk kl)).text = t ∧ (readAo (crashDk (putAo d t steps).dk kl)).gen = (readAo d).gen + 1)) := by
  have hk' : ¬ 400 < kl.length := by omega
  by_cases h8 : 8000 < t.size
  · rw [putAo_size h8] at hz; cases hz
  by_cases hR : Right d
  rotate_left
  · rw [putAo_form h8 hR] at hz; cases hz
  obtain ⟨g, s, n, c, hse, hcs⟩ := seen_cases (d := d)
  rcases hcs with ⟨hc, rfl, rfl, rfl⟩ | ⟨rfl, hg0, hgi, s, n, rfl, rfl, hs1, hn⟩
  · rw [putAo_read h8 hR (readAo_ill hR hse hc) hc] at hz
    exact absurd hz hc
  rcases Classical.em (∀ i < partsN n, fullAt d (firstN d s) n i) with hfull | hfull
  rotate_left
  · obtain ⟨i, hi, hfi⟩ : ∃ i, i < partsN n ∧ ¬ fullAt d (firstN d s) n i := by
      apply Classical.byContradiction
      intro h'
      exact hfull fun i hi => Classical.byContradiction fun hf => h' ⟨i, hi, hf⟩
    rw [putAo_read h8 hR (readAo_sum hR hse hi hfi) (by decide)] at hz
    cases hz
  have hA := readAo_ok hR hse hfull
  by_cases hfit : 64 * halfN d < t.size ∨ 1000000 ≤ g
  · rw [putAo_full h8 hR hA hfit] at hz; cases hz
  rw [putAo_run h8 hR hA hfit hse hs1] at hz ⊢
  obtain ⟨s2, hs2⟩ : ∃ x, x = 1 - s := ⟨_, rfl⟩
  rw [← hs2] at hz ⊢
  obtain ⟨f, hf⟩ : ∃ x, x = firstN d s2 := ⟨_, rfl⟩
  rw [← hf] at hz ⊢
  have hN : putN t steps ≤ partsN t.size + 3 := by unfold putN; omega
  generalize putN t steps = N at hz hN ⊢
  by_cases hr : (putRun f (g + 1) (s2 : Int) t N d).1 = 0
  rotate_left
  · rw [if_neg hr] at hz
    exact absurd hz hr
  rw [if_pos hr]
  obtain ⟨D, hD⟩ : ∃ D, putRun f (g + 1) (s2 : Int) t N d = (0, D) := ⟨_, Prod.ext hr rfl⟩
  rw [hD]
  dsimp only
  clear hz hr
  have hf1 : 1 ≤ f := by rw [hf]; unfold firstN; omega
  have hpt : partsN t.size ≤ halfN d := parts_le (by omega)
  have hpn : partsN n ≤ halfN d := parts_le hn
  have hap : ∀ i < partsN n, ∀ j < partsN t.size, firstN d s + i ≠ f + j := fun i hi j hj => by
    rw [hf, hs2]
    unfold firstN
    rcases (by omega : s = 0 ∨ s = 1) with rfl | rfl
    · simp only [Nat.zero_mul, Nat.one_mul, Nat.sub_zero]; omega
    · simp only [Nat.zero_mul, Nat.one_mul, Nat.sub_self]; omega
  have hlt : ∀ i < partsN n, firstN d s + i < d.S.length := fun i hi => first_lt hR hs1 hn hi
  have hd0 := hR.1
  -- the text ahead
  have old : ∀ c : Dk, Right c → c.S.length = d.S.length → (∀ k < d.S.length, (∀ j < partsN t.size, k ≠ f + j) → readT c k = readT d k) → (readAo c).code = 0 ∧ (((readAo c).text = (readAo d).text ∧ (readAo c).gen = (readAo d).gen) ∨ ((readAo c).text = t ∧ (readAo c).gen = (readAo d).gen + 1)) := fun c hc hl ho => by
    rw [read_same hc hl hse hfull (ho 0 hd0 (fun j hj => by omega)) (fun i hi => ho _ (hlt i hi) (hap i hi)), hA]
    exact ⟨rfl, .inl ⟨rfl, rfl⟩⟩
  -- while the text is written
  have base : ∀ j cur, j ≤ partsN t.size → putRun f (g + 1) (s2 : Int) t j d = (0, cur) → Right cur ∧ cur.S.length = d.S.length ∧ ∀ k < d.S.length, (∀ j < partsN t.size, k ≠ f + j) → (∀ p ∈ cur.P, p.1 ≠ (k : Int)) ∧ readT cur k = readT d k := fun j cur hj h => by
    obtain ⟨r1, r2⟩ := putRun_right hR j cur h
    obtain ⟨p1, p2⟩ := put_pending hR j cur hj h
    refine ⟨r1, r2, fun k hk hne => ?_⟩
    have hno : ∀ p ∈ cur.P, p.1 ≠ (k : Int) := fun p hp => by
      rcases p2 p hp with h | ⟨i, hi, e⟩
      · rw [hP] at h; cases h
      · have := hne i (by omega)
        omega
    refine ⟨hno, ?_⟩
    unfold readT
    rw [last_none hno, hP, p1]
    rfl
  rcases (by omega : N ≤ partsN t.size ∨ N = partsN t.size + 1 ∨ N = partsN t.size + 2 ∨ N = partsN t.size + 3) with hn0 | rfl | rfl | rfl
  · obtain ⟨b1, b2, b3⟩ := base N D hn0 hD
    refine old _ (crash_good D kl b1 hk) (by rw [crash_len b1 hk']; exact b2) (fun k hk2 hne => ?_)
    obtain ⟨b4, b5⟩ := b3 k hk2 hne
    rw [crash_other b1 hk' (by omega) b4]
    exact b5
  · obtain ⟨D0, hD0, hc0, rfl⟩ := putRun_step hD
    obtain ⟨b1, b2, b3⟩ := base _ D0 (Nat.le_refl _) hD0
    rw [putDo_flush (by omega) (by omega)]
    obtain ⟨r1, l1⟩ := flush_right b1
    rw [crash_none r1 hk' (flush_P b1)]
    refine old _ r1 (by rw [l1]; exact b2) (fun k hk2 hne => ?_)
    rw [fl_readT b1 k (by omega)]
    exact (b3 k hk2 hne).2
  · obtain ⟨D1, hD1, hc1, rfl⟩ := putRun_step hD
    obtain ⟨D0, hD0, hc0, rfl⟩ := putRun_step hD1
    obtain ⟨b1, b2, b3⟩ := base _ D0 (Nat.le_refl _) hD0
    have htx := put_texts _ _ (Nat.le_refl _) hD0
    have e0 : putDo f (g + 1) (s2 : Int) t (partsN t.size) D0 = flushDo D0 := putDo_flush (by omega) (by omega)
    rw [e0] at hc1 ⊢
    rw [putDo_head rfl] at hc1 ⊢
    obtain ⟨r1, l1⟩ := flush_right b1
    have r2 := write_right _ _ hc1
    have l2 := write_len hc1
    obtain ⟨w1, w2⟩ := write_adds hc1
    rw [flush_P b1, List.nil_append] at w2
    rcases crash_one r2 hk' w2 with e | e
    · rw [e, w1]
      have e1 : (⟨(flushDo D0).dk.S, []⟩ : Dk) = (flushDo D0).dk := by
        rw [← flush_P b1]
      rw [e1]
      refine old _ r1 (by rw [l1]; exact b2) (fun k hk2 hne => ?_)
      rw [fl_readT b1 k (by omega)]
      exact (b3 k hk2 hne).2
    · rw [e]
      obtain ⟨r3, l3⟩ := flush_right r2
      have hrn := read_new (c := (flushDo (writeDo (flushDo D0).dk 0 (headB (g + 1) (s2 : Int) (t.size : Int))).dk).dk) (d := d) (s := s2) (t := t) r3 (by rw [l3, l2, l1, b2]) (by omega) hg0 (by omega) (by omega) (by
        rw [fl_readT r2 0 (by rw [l2, l1, b2]; omega), wr_readT hc1, if_pos (by omega)]) (fun i hi => by
        have hlt2 := first_lt (d := d) (s := s2) hR (by omega) (by omega : t.size ≤ 64 * halfN d) hi
        rw [← hf] at hlt2 ⊢
        rw [fl_readT r2 _ (by rw [l2, l1, b2]; omega), wr_readT hc1, if_neg (by omega), fl_readT b1 _ (by omega)]
        exact htx i hi)
      rw [hrn, hA]
      exact ⟨rfl, .inr ⟨rfl, rfl⟩⟩
  · obtain ⟨D2, hD2, hc2, rfl⟩ := putRun_step hD
    obtain ⟨D1, hD1, hc1, rfl⟩ := putRun_step hD2
    obtain ⟨D0, hD0, hc0, rfl⟩ := putRun_step hD1
    obtain ⟨b1, b2, b3⟩ := base _ D0 (Nat.le_refl _) hD0
    have htx := put_texts _ _ (Nat.le_refl _) hD0
    have e0 : putDo f (g + 1) (s2 : Int) t (partsN t.size) D0 = flushDo D0 := putDo_flush (by omega) (by omega)
    have e2 : ∀ X, putDo f (g + 1) (s2 : Int) t (partsN t.size + 2) X = flushDo X := fun X => putDo_flush (by omega) (by omega)
    rw [e0] at hc1 ⊢
    rw [putDo_head rfl] at hc1 ⊢
    rw [e2]
    obtain ⟨r1, l1⟩ := flush_right b1
    have r2 := write_right _ _ hc1
    have l2 := write_len hc1
    obtain ⟨r3, l3⟩ := flush_right r2
    rw [crash_none r3 hk' (flush_P r2)]
    have hrn := read_new (c := (flushDo (writeDo (flushDo D0).dk 0 (headB (g + 1) (s2 : Int) (t.size : Int))).dk).dk) (d := d) (s := s2) (t := t) r3 (by rw [l3, l2, l1, b2]) (by omega) hg0 (by omega) (by omega) (by
      rw [fl_readT r2 0 (by rw [l2, l1, b2]; omega), wr_readT hc1, if_pos (by omega)]) (fun i hi => by
      have hlt2 := first_lt (d := d) (s := s2) hR (by omega) (by omega : t.size ≤ 64 * halfN d) hi
      rw [← hf] at hlt2 ⊢
      rw [fl_readT r2 _ (by rw [l2, l1, b2]; omega), wr_readT hc1, if_neg (by omega), fl_readT b1 _ (by omega)]
      exact htx i hi)
    rw [hrn, hA]
    exact ⟨rfl, .inr ⟨rfl, rfl⟩⟩
/-- A put of all steps: flushed, whatever is kept. -/
theorem put_whole {d : Dk} {t : ByteArray} {kl : List Int} (hk : kl.length ≤ 400) (hz : (putAo d t 1000).code = 0) : crashDk (putAo d t 1000).dk kl = (putAo d t 1000).dk := by
  refine crash_none (put_good d t 1000 hz) (by omega) ?_
  by_cases h1 : 8000 < t.size
  · rw [putAo_size h1] at hz; cases hz
  by_cases hR : Right d
  rotate_left
  · rw [putAo_form h1 hR] at hz; cases hz
  classical
  unfold putAo at hz ⊢
  rw [if_neg h1, if_neg (fun h' => h' hR)] at hz ⊢
  by_cases hc : (readAo d).code = 0
  rotate_left
  · rw [if_pos hc] at hz
    exact absurd hz hc
  rw [if_neg (fun h' => h' hc)] at hz ⊢
  by_cases hf : 64 * halfN d < t.size ∨ 1000000 ≤ (readAo d).gen
  · rw [if_pos hf] at hz; cases hz
  rw [if_neg hf] at hz ⊢
  dsimp only at hz ⊢
  rw [show putN t 1000 = partsN t.size + 3 by unfold putN partsN; omega] at hz ⊢
  generalize hr : putRun _ _ _ t (partsN t.size + 3) d = r at hz ⊢
  obtain ⟨c, cur⟩ := r
  by_cases h0 : c = 0
  · subst h0
    rw [if_pos rfl]
    obtain ⟨d', hd', hy, rfl⟩ := putRun_step hr
    rw [putDo_flush (by omega) (by omega)]
    exact flush_P (putRun_right hR _ _ hd').1
  · rw [if_neg h0] at hz
    exact absurd hz h0

end Go.Proofs.YthchlfllcnlmjaaGreatDoor
