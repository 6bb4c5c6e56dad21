/-
  AreaPut as data, and the contracts of its parts.
-/
import Derived.Test.YthchlfllcnlmjaaGreatDoorReadM
import Derived.Test.YthchlfllcnlmjaaGreatDoorFormat
import Derived.Test.YthchlfllcnlmjaaGreatDoorFirst
import Derived.Test.YthchlfllcnlmjaaGreatDoorFormatS
import Derived.Test.YthchlfllcnlmjaaGreatDoorAreaOn
/-! What AreaPut answers, as data. -/
namespace Go.Proofs.YthchlfllcnlmjaaGreatDoor
open Go.RowKit

open Classical in
/-- A step of a put: the text's k-th sector; the head; a flush. -/
noncomputable def putDo (f : Nat) (g s : Int) (t : ByteArray) (k : Nat) (d : Dk) : Do :=
  if k < partsN t.size then writeDo d ((f + k : Nat) : Int) (t.extract (64 * k) (min (64 * k + 64) t.size))
  else if k = partsN t.size + 1 then writeDo d 0 (headB g s t.size) else flushDo d
theorem putDo_text {f : Nat} {g s : Int} {t : ByteArray} {k : Nat} {d : Dk} (h : k < partsN t.size) : putDo f g s t k d = writeDo d ((f + k : Nat) : Int) (t.extract (64 * k) (min (64 * k + 64) t.size)) := by
  classical
  unfold putDo; rw [if_pos h]
theorem putDo_head {f : Nat} {g s : Int} {t : ByteArray} {k : Nat} {d : Dk} (h : k = partsN t.size + 1) : putDo f g s t k d = writeDo d 0 (headB g s t.size) := by
  classical
  unfold putDo; rw [if_neg (by omega), if_pos h]
theorem putDo_flush {f : Nat} {g s : Int} {t : ByteArray} {k : Nat} {d : Dk} (h : ¬ k < partsN t.size) (h1 : ¬ k = partsN t.size + 1) : putDo f g s t k d = flushDo d := by
  classical
  unfold putDo; rw [if_neg h, if_neg h1]

theorem write_len {d : Dk} {a : Int} {t : ByteArray} (h : (writeDo d a t).code = 0) : (writeDo d a t).dk.S.length = d.S.length := by
  classical
  unfold writeDo at *
  split
  · rename_i hc; rw [if_pos hc] at h; cases h
  · rename_i hc; rw [if_neg hc] at h
    split
    · rename_i hd; rw [if_pos hd] at h; cases h
    · rename_i hd; rw [if_neg hd] at h
      split
      · rename_i he; rw [if_pos he] at h; cases h
      · rename_i he; rw [if_neg he] at h
        split
        · rename_i hf; rw [if_pos hf] at h; cases h
        · rfl
theorem flush_right {d : Dk} (h : Right d) : Right (flushDo d).dk ∧ (flushDo d).dk.S.length = d.S.length := by
  rw [flush_ok h]
  obtain ⟨h1, h2, h3, h4, h5⟩ := h
  refine ⟨⟨?_, ?_, Nat.zero_le _, fun s hs => ?_, fun p hp => by cases hp⟩, flushS_len _ _⟩
  · simp only [flushS_len]; exact h1
  · simp only [flushS_len]; exact h2
  · obtain ⟨i, hi, rfl⟩ := List.mem_iff_getElem.1 hs
    have hi' : i < d.S.length := by simpa [flushS_len] using hi
    have hg := flushS_get d.S d.P i hi'
    rw [List.getElem?_eq_getElem hi] at hg
    have hg := Option.some.inj hg
    rw [hg]
    cases hl : lastOf d.P (i : Int) with
    | some u => exact (h5 _ (lastOf_mem _ _ _ hl)).2.2
    | none => exact h4 _ (List.getElem_mem hi')
theorem putDo_right {f : Nat} {g s : Int} {t : ByteArray} {k : Nat} {d : Dk} (hR : Right d) (h : (putDo f g s t k d).code = 0) : Right (putDo f g s t k d).dk ∧ (putDo f g s t k d).dk.S.length = d.S.length := by
  by_cases h1 : k < partsN t.size
  · rw [putDo_text h1] at *
    exact ⟨write_right _ _ h, write_len h⟩
  · by_cases h2 : k = partsN t.size + 1
    · rw [putDo_head h2] at *
      exact ⟨write_right _ _ h, write_len h⟩
    · rw [putDo_flush h1 h2] at *
      exact flush_right hR

/-- The first j steps: a code, and the disk. -/
noncomputable def putRun (f : Nat) (g s : Int) (t : ByteArray) : Nat → Dk → Int × Dk
  | 0, d => (0, d)
  | j + 1, d => if (putRun f g s t j d).1 = 0 then
      (if (putDo f g s t j (putRun f g s t j d).2).code = 0 then (0, (putDo f g s t j (putRun f g s t j d).2).dk) else ((putDo f g s t j (putRun f g s t j d).2).code, ⟨[], []⟩))
    else putRun f g s t j d
theorem putRun_ok {f : Nat} {g s : Int} {t : ByteArray} {j : Nat} {d cur : Dk} (h : putRun f g s t j d = (0, cur)) (hc : (putDo f g s t j cur).code = 0) : putRun f g s t (j + 1) d = (0, (putDo f g s t j cur).dk) := by
  rw [putRun, h]
  simp only
  rw [if_pos trivial, if_pos hc]
theorem putRun_ill {f : Nat} {g s : Int} {t : ByteArray} {j : Nat} {d cur : Dk} (h : putRun f g s t j d = (0, cur)) (hc : ¬ (putDo f g s t j cur).code = 0) : ∀ i, j < i → putRun f g s t i d = ((putDo f g s t j cur).code, ⟨[], []⟩) := by
  have h1 : putRun f g s t (j + 1) d = ((putDo f g s t j cur).code, ⟨[], []⟩) := by
    rw [putRun, h]
    simp only
    rw [if_pos trivial, if_neg hc]
  intro i hi
  induction i with
  | zero => omega
  | succ i ih =>
    by_cases hji : i = j
    · rw [hji]; exact h1
    · rw [putRun, ih (by omega)]
      simp only
      rw [if_neg hc]
theorem putRun_right {f : Nat} {g s : Int} {t : ByteArray} {d : Dk} (hR : Right d) : ∀ (j : Nat) (cur : Dk), putRun f g s t j d = (0, cur) → Right cur ∧ cur.S.length = d.S.length
  | 0, cur, h => by
    rw [putRun] at h
    obtain rfl : d = cur := (Prod.mk.inj h).2
    exact ⟨hR, rfl⟩
  | j + 1, cur, h => by
    obtain ⟨c, hc⟩ : ∃ x, putRun f g s t j d = x := ⟨_, rfl⟩
    obtain ⟨c, d'⟩ := c
    by_cases h0 : c = 0
    · subst h0
      obtain ⟨i1, i2⟩ := putRun_right hR j d' hc
      by_cases hy : (putDo f g s t j d').code = 0
      · rw [putRun_ok hc hy] at h
        obtain rfl := (Prod.mk.inj h).2
        obtain ⟨i3, i4⟩ := putDo_right i1 hy
        exact ⟨i3, i4.trans i2⟩
      · rw [putRun_ill hc hy (j + 1) (by omega)] at h
        exact absurd (Prod.mk.inj h).1 hy
    · rw [putRun, hc] at h
      simp only at h
      rw [if_neg h0] at h
      exact absurd (Prod.mk.inj h).1 h0

/-- How many steps are done. -/
def putN (t : ByteArray) (steps : Int) : Nat := min steps.toNat (partsN t.size + 3)
open Classical in
/-- What AreaPut answers. -/
noncomputable def putAo (d : Dk) (t : ByteArray) (steps : Int) : Ao :=
  if 8000 < t.size then illAo 2
  else if ¬ Right d then illAo 1
  else if ¬ (readAo d).code = 0 then illAo (readAo d).code
  else if (64 * halfN d < t.size ∨ 1000000 ≤ (readAo d).gen) then illAo 9
  else
    let s := 1 - (seenH (readT d 0) (64 * halfN d)).2.1
    let r := putRun (firstN d s.toNat) ((readAo d).gen + 1) s t (putN t steps) d
    if r.1 = 0 then ⟨r.2, ⟨#[]⟩, 0, 0⟩ else illAo r.1
theorem putAo_size {d : Dk} {t : ByteArray} {steps : Int} (h : 8000 < t.size) : putAo d t steps = illAo 2 := by
  classical
  unfold putAo; rw [if_pos h]
theorem putAo_form {d : Dk} {t : ByteArray} {steps : Int} (h : ¬ 8000 < t.size) (hR : ¬ Right d) : putAo d t steps = illAo 1 := by
  classical
  unfold putAo; rw [if_neg h, if_pos hR]
theorem putAo_read {d : Dk} {t : ByteArray} {steps : Int} (h : ¬ 8000 < t.size) (hR : Right d) {c : Int} (hr : readAo d = illAo c) (hc : ¬ c = 0) : putAo d t steps = illAo c := by
  classical
  unfold putAo; rw [if_neg h, if_neg (fun h' => h' hR), hr]
  exact if_pos hc
theorem putAo_full {d : Dk} {t x : ByteArray} {steps g : Int} (h : ¬ 8000 < t.size) (hR : Right d) (hr : readAo d = ⟨d, x, g, 0⟩) (hf : 64 * halfN d < t.size ∨ 1000000 ≤ g) : putAo d t steps = illAo 9 := by
  classical
  unfold putAo; rw [if_neg h, if_neg (fun h' => h' hR), hr]
  simp only
  rw [if_neg (fun h' => h' trivial), if_pos hf]
/-- All is well: what the steps leave. -/
theorem putAo_run {d : Dk} {t x : ByteArray} {steps g n : Int} {s : Nat} (h : ¬ 8000 < t.size) (hR : Right d) (hr : readAo d = ⟨d, x, g, 0⟩) (hf : ¬ (64 * halfN d < t.size ∨ 1000000 ≤ g)) (hse : seenH (readT d 0) (64 * halfN d) = (g, (s : Int), n, 0)) (hs : s ≤ 1) :
    putAo d t steps = if (putRun (firstN d (1 - s)) (g + 1) ((1 - s : Nat) : Int) t (putN t steps) d).1 = 0 then ⟨(putRun (firstN d (1 - s)) (g + 1) ((1 - s : Nat) : Int) t (putN t steps) d).2, ⟨#[]⟩, 0, 0⟩ else illAo (putRun (firstN d (1 - s)) (g + 1) ((1 - s : Nat) : Int) t (putN t steps) d).1 := by
  classical
  unfold putAo; rw [if_neg h, if_neg (fun h' => h' hR), hr, hse]
  simp only
  rw [if_neg (fun h' => h' trivial), if_neg hf]
  have e1 : (1 : Int) - (s : Int) = ((1 - s : Nat) : Int) := by omega
  rw [e1, Int.toNat_natCast]

end Go.Proofs.YthchlfllcnlmjaaGreatDoor

/-! Contract of the program's putStep. -/
namespace Go.Proofs.YthchlfllcnlmjaaGreatDoor
open Go.ChangeShapes Go.WideShapes Go.ChangeAt Go.RowKit

theorem DoOw.lift {w w' : World} {base : Nat} {v : Value} {o : Do} (h : DoOw w base v o) (hb : Below w.heap.size w w') : DoOw w' base v o := by
  obtain ⟨vs, vp, rfl, h⟩ := h
  exact ⟨vs, vp, rfl, h.lift hb⟩
theorem DoOw.dk {w : World} {base : Nat} {s p : Value} {t : ByteArray} {c : Int} {o : Do} (h : DoOw w base (.agg #[s, p, .string t, .int .i64 c]) o) : DkOw w base (.agg #[s, p]) o.dk := by
  obtain ⟨vs, vp, e, h⟩ := h
  simp only [Value.agg.injEq, Array.mk.injEq, List.cons.injEq, and_true] at e
  obtain ⟨rfl, rfl, _⟩ := e
  exact h
theorem led_three (w : World) (o1 o2 o3 : Obj) {v : Value} {d : Dk} (hv : DkAt w w.heap.size v d) : Led w (((w.alloc o1).alloc o2).alloc o3) [(w.heap.size + 2, o3), (w.heap.size + 1, o2), (w.heap.size, o1)] [(w.heap.size, v, d)] [] := by
  have h := (led_two w o1 o2 hv).alloc o3
  rwa [show ((w.alloc o1).alloc o2).heap.size = w.heap.size + 2 by simp only [World.size_alloc]] at h
/-- The result's box is written. -/
theorem do_done {w W : World} (h : Below w.heap.size w W) {x : Do} {B1 B2 : Option Addr} {e1 e2 base : Nat} (ho : DoOw W base (.agg #[.slice B1 x.dk.S.length e1, .slice B2 x.dk.P.length e2, .string x.data, .int .i64 x.code]) x) (hb : w.heap.size + 3 ≤ base) (y0 y1 y2 y3 : Value) :
    OwnsDo w x (.returned (.agg #[.slice B1 x.dk.S.length e1, .slice B2 x.dk.P.length e2, .string x.data, .int .i64 x.code])) ((((W.setCell ⟨w.heap.size + 2, 0, none⟩ y0).setCell ⟨w.heap.size + 2, 1, none⟩ y1).setCell ⟨w.heap.size + 2, 2, none⟩ y2).setCell ⟨w.heap.size + 2, 3, none⟩ y3) := by
  refine ⟨_, rfl, ⟨_, _, rfl, ?_⟩, ?_⟩
  · refine DkOw.base (base := base) ?_ (by omega)
    repeat (refine DkOw.far ?_ (by simp only; omega) _)
    exact ho.dk
  · repeat (refine Below.setCell ?_ (by simp only; omega) _)
    exact h

set_option maxRecDepth 100000 in
set_option maxHeartbeats 4000000 in
theorem impl_putstep (v : Value) (d : Dk) (f k s : Nat) (g : Int) (t : ByteArray) (w : World) (hv : DkAt w w.heap.size v d) (hR : Right d) (hs : s ≤ 1) (hf : f = firstN d s) (ht : t.size ≤ 2016) (hg : I64 g) (hk : k ≤ 200) :
    Calls Tryz.prog 40 #[v, .agg #[.int .i64 g, .int .i64 (s : Int), .int .i64 (t.size : Int)], .string t, .int .i64 (k : Int)] w (OwnsDo w (putDo f g (s : Int) t k d)) := by
  obtain ⟨vs, vp, rfl, hs', hp⟩ := hv
  obtain ⟨A1, c1, rfl⟩ := hs'.form
  obtain ⟨A2, c2, rfl⟩ := hp.form
  have HL := Lib.hid (led_three w (.cells #[.slice A1 d.S.length c1, .slice A2 d.P.length c2] 26) (.cells #[.int .i64 g, .int .i64 (s : Int), .int .i64 (t.size : Int)] 58) (.cells #[.slice none 0 0, .slice none 0 0, .string ⟨#[]⟩, .int .i64 0] 68) (d := d) ⟨_, _, rfl, hs', hp⟩)
  have HRR := Lib.hid hR
  have HI := Lib.hid (show I64 g ∧ I64 (s : Int) ∧ I64 (t.size : Int) from ⟨hg, ⟨by omega, by omega⟩, ⟨by omega, by omega⟩⟩)
  have HFI := Lib.hid (fun W => impl_first A1 (.slice A2 d.P.length c2) c1 s d W hR.1 hR.2.1 hs)
  rw [← hf] at HFI
  have HSEC := Lib.hid (fun W => impl_sectors t.size W (by omega))
  have hfl : f ≤ 64 := by
    have h1 := hR.2.1
    unfold firstN at hf
    have : s * halfN d ≤ 1 * halfN d := Nat.mul_le_mul_right _ hs
    unfold halfN at *
    omega
  obtain ⟨pn, hpn⟩ : ∃ x, x = partsN t.size := ⟨_, rfl⟩
  have HPN := Lib.hid hpn
  rw [← hpn] at HSEC
  have hpl : pn ≤ 32 := by rw [hpn]; unfold partsN; omega
  have HPM := Lib.hid (show k < pn → 64 * k < t.size by rw [hpn]; unfold partsN; omega)
  clear hs' hp hR hf hpn hg
  have hw1 : IntKind.i64.wrap ((k : Int) * 64) = (k : Int) * 64 := IntWalk.i64_in _ (by omega)
  have hw2 : IntKind.i64.wrap ((k : Int) * 64 + 64) = (k : Int) * 64 + 64 := IntWalk.i64_in _ (by omega)
  have hw3 : IntKind.i64.wrap ((f : Int) + (k : Int)) = (f : Int) + (k : Int) := IntWalk.i64_in _ (by omega)
  have hw4 : IntKind.i64.wrap ((pn : Int) + 1) = (pn : Int) + 1 := IntWalk.i64_in _ (by omega)
  go_enter Tryz.func40, Tryz.ntmps40
  obtain ⟨q0, q1, q2, ql⟩ := HL.out.b3 (List.mem_cons_of_mem _ List.mem_cons_self)
  go_wp2_with fail
  refine (HSEC.out _).mono ?_
  rintro e w1 ⟨rfl, hb⟩
  replace HL := Lib.hid (HL.out.lift hb)
  clear hb q0 q1 q2 ql
  by_cases hkn : k < pn
  · have hkn' : (k : Int) < (pn : Int) := by omega
    have hkt := HPM.out hkn
    obtain ⟨he, hhe⟩ : ∃ x, x = min (64 * k + 64) t.size := ⟨_, rfl⟩
    have hmin : min ((k : Int) * 64 + 64) (t.size : Int) = (he : Int) := by omega
    have hh1 : (k : Int) * 64 ≤ (he : Int) := by omega
    have hh2 : (he : Int) ≤ (t.size : Int) := by omega
    obtain ⟨x, hx⟩ : ∃ x, x = putDo f g (s : Int) t k d := ⟨_, rfl⟩
    have HX := Lib.hid hx.symm
    have hxt := hx.trans (putDo_text (by rw [← HPN.out]; exact hkn))
    rw [← hhe] at hxt
    obtain ⟨tx, htx⟩ : ∃ x, x = t.extract (64 * k) he := ⟨_, rfl⟩
    have hex : t.extract (k * 64) he = tx := by rw [htx, Nat.mul_comm]
    rw [← htx] at hxt
    have HXW := Lib.hid (show writeDo d ((f : Int) + (k : Int)) tx = x from hxt.symm)
    have HTS := Lib.hid (show tx.size ≤ 1048576 by rw [htx, ByteArray.size_extract]; omega)
    have hsl : ∀ W : World, (Instr.slice 9 (.string t) (some (.int .i64 ((k : Int) * 64))) (some (.int .i64 (he : Int))) none).run Tryz.prog W = .ok (.string tx) W := fun W => by
      have h := run_slice_string (P := Tryz.prog) (w := W) 9 t .i64 .i64 ((k : Int) * 64) (he : Int) Tryz.underlying9 (by omega) hh1 hh2
      rw [show ((k : Int) * 64).toNat = k * 64 by omega, Int.toNat_natCast, hex] at h
      exact h
    clear hx hxt hhe htx hkn hex
    go_wp2
    go_upto_region 4 with fail
    refine wp_region_calm_led_tail [(4, (fun u => u = .int .i64 (f : Int)), fun _ _ => True), (15, (fun u => ∃ B1 e1 B2 e2, u = .agg #[.slice B1 x.dk.S.length e1, .slice B2 x.dk.P.length e2, .string x.data, .int .i64 x.code]), fun u W => DoOw W (w.heap.size + 3) u x)] 16 (by kernel_rfl) (by kernel_rfl) (by
      intro p hp v
      simp only [List.mem_cons, List.not_mem_nil, or_false] at hp
      rcases hp with rfl | rfl
      · exact mono_true
      · exact fun W W' hb h => h.lift hb) HL.out ?_
    repeat (first
      | (refine calm_skip (by rfl) ?_; try simp only [Act.put, List.setIfInBounds_toArray, List.set_cons_zero, List.set_cons_succ])
      | (refine calm_plain (by rfl) (by rfl) ?_; apply Exists.intro; refine ⟨fun wc hC hD => ?_, ?_⟩; (focus (clear hD; obtain ⟨y0, y1, yl⟩ := hC.b2 (List.mem_cons_of_mem _ (List.mem_cons_of_mem _ List.mem_cons_self)); obtain ⟨q0, q1, q2, ql⟩ := hC.b3 (List.mem_cons_of_mem _ List.mem_cons_self); clear hC; go_simp; first | done | with_reducible rfl)); try simp only [Act.put, List.setIfInBounds_toArray, List.set_cons_zero, List.set_cons_succ]))
    refine calm_call _ _ (by rfl) (by rfl) ?_ ?_
    focus
      apply Exists.intro
      apply Exists.intro
      refine ⟨fun wc hC hD => ?_, fun wc hC hD => ?_⟩
      focus (clear hD; obtain ⟨y0, y1, yl⟩ := hC.b2 (List.mem_cons_of_mem _ (List.mem_cons_of_mem _ List.mem_cons_self)); obtain ⟨q0, q1, q2, ql⟩ := hC.b3 (List.mem_cons_of_mem _ List.mem_cons_self); clear hC; go_simp; first | done | with_reducible exact ⟨rfl, rfl⟩)
      clear hD
      with_reducible refine (HFI.out _).mono ?_
      rintro e wx ⟨rfl, hb⟩
      exact ⟨_, rfl, hb, rfl, trivial⟩
    rintro _ rfl
    try simp only [Act.put, List.setIfInBounds_toArray, List.set_cons_zero, List.set_cons_succ]
    repeat (first
      | (refine calm_skip (by rfl) ?_; try simp only [Act.put, List.setIfInBounds_toArray, List.set_cons_zero, List.set_cons_succ])
      | (refine calm_plain (by rfl) (by rfl) ?_; apply Exists.intro; refine ⟨fun wc hC hD => ?_, ?_⟩; (focus (clear hD; obtain ⟨y0, y1, yl⟩ := hC.b2 (List.mem_cons_of_mem _ (List.mem_cons_of_mem _ List.mem_cons_self)); obtain ⟨q0, q1, q2, ql⟩ := hC.b3 (List.mem_cons_of_mem _ List.mem_cons_self); clear hC; go_simp; first | done | with_reducible rfl)); try simp only [Act.put, List.setIfInBounds_toArray, List.set_cons_zero, List.set_cons_succ]))
    refine calm_call _ _ (by rfl) (by rfl) ?_ ?_
    focus
      apply Exists.intro
      apply Exists.intro
      refine ⟨fun wc hC hD => ?_, fun wc hC hD => ?_⟩
      focus (clear hD; obtain ⟨y0, y1, yl⟩ := hC.b2 (List.mem_cons_of_mem _ (List.mem_cons_of_mem _ List.mem_cons_self)); obtain ⟨q0, q1, q2, ql⟩ := hC.b3 (List.mem_cons_of_mem _ List.mem_cons_self); clear hC; go_simp; first | done | with_reducible exact ⟨rfl, rfl⟩)
      clear hD
      have hzc := block_lt (hC.blk _ List.mem_cons_self)
      with_reducible refine (impl_write _ d _ _ _ (hC.at_ List.mem_cons_self) (right_small' HRR.out) HTS.out).mono ?_
      intro e wx h
      rw [HXW.out] at h
      obtain ⟨B1, e1, B2, e2, rfl, ho, hb⟩ := h.parts
      exact ⟨_, rfl, hb, ⟨_, _, _, _, rfl⟩, ⟨_, _, rfl, ho.base (by omega)⟩⟩
    rintro _ ⟨B1, e1, B2, e2, rfl⟩
    try simp only [Act.put, List.setIfInBounds_toArray, List.set_cons_zero, List.set_cons_succ]
    repeat (first
      | (refine calm_skip (by rfl) ?_; try simp only [Act.put, List.setIfInBounds_toArray, List.set_cons_zero, List.set_cons_succ])
      | (refine calm_plain (by rfl) (by rfl) ?_; apply Exists.intro; refine ⟨fun wc hC hD => ?_, ?_⟩; (focus (clear hD; obtain ⟨y0, y1, yl⟩ := hC.b2 (List.mem_cons_of_mem _ (List.mem_cons_of_mem _ List.mem_cons_self)); obtain ⟨q0, q1, q2, ql⟩ := hC.b3 (List.mem_cons_of_mem _ List.mem_cons_self); clear hC; go_simp; first | done | with_reducible rfl)); try simp only [Act.put, List.setIfInBounds_toArray, List.set_cons_zero, List.set_cons_succ]))
    refine calm_end ?_
    intro w7 hL7 hF7
    have hG := hF7 15
    simp [upd, noF] at hG
    clear hF7
    replace HL := Lib.hid hL7
    clear hL7
    simp only [List.drop_succ_cons, List.drop_zero]
    have HO := Lib.hid hG
    clear hG
    have HZ := Lib.hid (HL.out.blk _ List.mem_cons_self)
    have hz := block_lt HZ.out
    obtain ⟨z0, z1, z2, z3⟩ := box4 HZ.out
    obtain ⟨k0, k1, k2, k3⟩ := box_frozen HZ.out
    go_wp2
    refine bodyPost_ret (v := .agg #[.slice B1 x.dk.S.length e1, .slice B2 x.dk.P.length e2, .string x.data, .int .i64 x.code]) (by simp [results, Tryz.results40, go_sem, z0, z1, z2, z3]) rfl ?_
    rw [HX.out]
    exact do_done HL.out.bel HO.out (Nat.le_refl _) _ _ _ _
  · have hkn' : ¬ (k : Int) < (pn : Int) := by omega
    by_cases hk1 : k = pn + 1
    · have hk1' : ((k : Int) == (pn : Int) + 1) = true := by simp; omega
      obtain ⟨x, hx⟩ : ∃ x, x = putDo f g (s : Int) t k d := ⟨_, rfl⟩
      have HX := Lib.hid hx.symm
      have HXW := Lib.hid (show writeDo d 0 (headB g (s : Int) (t.size : Int)) = x from (hx.trans (putDo_head (by rw [← HPN.out]; exact hk1))).symm)
      have HTS := Lib.hid (show (headB g (s : Int) (t.size : Int)).size ≤ 1048576 by have := head_size g (s : Int) (t.size : Int); omega)
      clear hx hk1 hkn
      go_wp2
      go_upto_region 6 with fail
      refine wp_region_calm_led_tail [(2, (fun u => u = .string (headB g (s : Int) (t.size : Int))), fun _ _ => True), (3, (fun u => ∃ B1 e1 B2 e2, u = .agg #[.slice B1 x.dk.S.length e1, .slice B2 x.dk.P.length e2, .string x.data, .int .i64 x.code]), fun u W => DoOw W (w.heap.size + 3) u x)] 4 (by kernel_rfl) (by kernel_rfl) (by
        intro p hp v
        simp only [List.mem_cons, List.not_mem_nil, or_false] at hp
        rcases hp with rfl | rfl
        · exact mono_true
        · exact fun W W' hb h => h.lift hb) HL.out ?_
      repeat (first
        | (refine calm_skip (by rfl) ?_; try simp only [Act.put, List.setIfInBounds_toArray, List.set_cons_zero, List.set_cons_succ])
        | (refine calm_plain (by rfl) (by rfl) ?_; apply Exists.intro; refine ⟨fun wc hC hD => ?_, ?_⟩; (focus (clear hD; obtain ⟨y0, y1, yl⟩ := hC.b2 (List.mem_cons_of_mem _ (List.mem_cons_of_mem _ List.mem_cons_self)); obtain ⟨q0, q1, q2, ql⟩ := hC.b3 (List.mem_cons_of_mem _ List.mem_cons_self); clear hC; go_simp; first | done | with_reducible rfl)); try simp only [Act.put, List.setIfInBounds_toArray, List.set_cons_zero, List.set_cons_succ]))
      refine calm_call _ _ (by rfl) (by rfl) ?_ ?_
      focus
        apply Exists.intro
        apply Exists.intro
        refine ⟨fun wc hC hD => ?_, fun wc hC hD => ?_⟩
        focus (clear hD; obtain ⟨y0, y1, yl⟩ := hC.b2 (List.mem_cons_of_mem _ (List.mem_cons_of_mem _ List.mem_cons_self)); obtain ⟨q0, q1, q2, ql⟩ := hC.b3 (List.mem_cons_of_mem _ List.mem_cons_self); clear hC; go_simp; first | done | with_reducible exact ⟨rfl, rfl⟩)
        clear hD
        with_reducible refine (impl_sealed g (s : Int) (t.size : Int) _ HI.out.1 HI.out.2.1 HI.out.2.2).mono ?_
        rintro e wx ⟨rfl, hb⟩
        exact ⟨_, rfl, hb, rfl, trivial⟩
      rintro _ rfl
      try simp only [Act.put, List.setIfInBounds_toArray, List.set_cons_zero, List.set_cons_succ]
      repeat (first
        | (refine calm_skip (by rfl) ?_; try simp only [Act.put, List.setIfInBounds_toArray, List.set_cons_zero, List.set_cons_succ])
        | (refine calm_plain (by rfl) (by rfl) ?_; apply Exists.intro; refine ⟨fun wc hC hD => ?_, ?_⟩; (focus (clear hD; obtain ⟨y0, y1, yl⟩ := hC.b2 (List.mem_cons_of_mem _ (List.mem_cons_of_mem _ List.mem_cons_self)); obtain ⟨q0, q1, q2, ql⟩ := hC.b3 (List.mem_cons_of_mem _ List.mem_cons_self); clear hC; go_simp; first | done | with_reducible rfl)); try simp only [Act.put, List.setIfInBounds_toArray, List.set_cons_zero, List.set_cons_succ]))
      refine calm_call _ _ (by rfl) (by rfl) ?_ ?_
      focus
        apply Exists.intro
        apply Exists.intro
        refine ⟨fun wc hC hD => ?_, fun wc hC hD => ?_⟩
        focus (clear hD; obtain ⟨y0, y1, yl⟩ := hC.b2 (List.mem_cons_of_mem _ (List.mem_cons_of_mem _ List.mem_cons_self)); obtain ⟨q0, q1, q2, ql⟩ := hC.b3 (List.mem_cons_of_mem _ List.mem_cons_self); clear hC; go_simp; first | done | with_reducible exact ⟨rfl, rfl⟩)
        clear hD
        have hzc := block_lt (hC.blk _ List.mem_cons_self)
        with_reducible refine (impl_write _ d _ _ _ (hC.at_ List.mem_cons_self) (right_small' HRR.out) HTS.out).mono ?_
        intro e wx h
        rw [HXW.out] at h
        obtain ⟨B1, e1, B2, e2, rfl, ho, hb⟩ := h.parts
        exact ⟨_, rfl, hb, ⟨_, _, _, _, rfl⟩, ⟨_, _, rfl, ho.base (by omega)⟩⟩
      rintro _ ⟨B1, e1, B2, e2, rfl⟩
      try simp only [Act.put, List.setIfInBounds_toArray, List.set_cons_zero, List.set_cons_succ]
      repeat (first
        | (refine calm_skip (by rfl) ?_; try simp only [Act.put, List.setIfInBounds_toArray, List.set_cons_zero, List.set_cons_succ])
        | (refine calm_plain (by rfl) (by rfl) ?_; apply Exists.intro; refine ⟨fun wc hC hD => ?_, ?_⟩; (focus (clear hD; obtain ⟨y0, y1, yl⟩ := hC.b2 (List.mem_cons_of_mem _ (List.mem_cons_of_mem _ List.mem_cons_self)); obtain ⟨q0, q1, q2, ql⟩ := hC.b3 (List.mem_cons_of_mem _ List.mem_cons_self); clear hC; go_simp; first | done | with_reducible rfl)); try simp only [Act.put, List.setIfInBounds_toArray, List.set_cons_zero, List.set_cons_succ]))
      refine calm_end ?_
      intro w7 hL7 hF7
      have hG := hF7 3
      simp [upd, noF] at hG
      clear hF7
      replace HL := Lib.hid hL7
      clear hL7
      simp only [List.drop_succ_cons, List.drop_zero]
      have HO := Lib.hid hG
      clear hG
      have HZ := Lib.hid (HL.out.blk _ List.mem_cons_self)
      have hz := block_lt HZ.out
      obtain ⟨z0, z1, z2, z3⟩ := box4 HZ.out
      obtain ⟨k0, k1, k2, k3⟩ := box_frozen HZ.out
      go_wp2
      refine bodyPost_ret (v := .agg #[.slice B1 x.dk.S.length e1, .slice B2 x.dk.P.length e2, .string x.data, .int .i64 x.code]) (by simp [results, Tryz.results40, go_sem, z0, z1, z2, z3]) rfl ?_
      rw [HX.out]
      exact do_done HL.out.bel HO.out (Nat.le_refl _) _ _ _ _
    · have hk1' : ((k : Int) == (pn : Int) + 1) = false := by simp; omega
      obtain ⟨x, hx⟩ : ∃ x, x = putDo f g (s : Int) t k d := ⟨_, rfl⟩
      have HX := Lib.hid hx.symm
      have HXF := Lib.hid (show flushDo d = x from (hx.trans (putDo_flush (by rw [← HPN.out]; exact hkn) (by rw [← HPN.out]; exact hk1))).symm)
      clear hx hk1 hkn
      obtain ⟨y0, y1, yl⟩ := HL.out.b2 (List.mem_cons_of_mem _ (List.mem_cons_of_mem _ List.mem_cons_self))
      go_wp2_with fail
      refine (impl_flush _ d _ (HL.out.at_ List.mem_cons_self) (right_small' HRR.out)).mono ?_
      intro e w7 h
      rw [HXF.out] at h
      have hzc := block_lt (HL.out.blk _ List.mem_cons_self)
      obtain ⟨B1, e1, B2, e2, rfl, ho, hb⟩ := h.parts
      replace HL := Lib.hid (HL.out.lift hb)
      have hG : DoOw w7 (w.heap.size + 3) (.agg #[.slice B1 x.dk.S.length e1, .slice B2 x.dk.P.length e2, .string x.data, .int .i64 x.code]) x := ⟨_, _, rfl, ho.base (by omega)⟩
      clear h ho hb y0 y1 yl
      have HO := Lib.hid hG
      clear hG
      have HZ := Lib.hid (HL.out.blk _ List.mem_cons_self)
      have hz := block_lt HZ.out
      obtain ⟨z0, z1, z2, z3⟩ := box4 HZ.out
      obtain ⟨k0, k1, k2, k3⟩ := box_frozen HZ.out
      go_wp2
      refine bodyPost_ret (v := .agg #[.slice B1 x.dk.S.length e1, .slice B2 x.dk.P.length e2, .string x.data, .int .i64 x.code]) (by simp [results, Tryz.results40, go_sem, z0, z1, z2, z3]) rfl ?_
      rw [HX.out]
      exact do_done HL.out.bel HO.out (Nat.le_refl _) _ _ _ _

end Go.Proofs.YthchlfllcnlmjaaGreatDoor

/-! Contract of the program's nextHead. -/
namespace Go.Proofs.YthchlfllcnlmjaaGreatDoor
open Go.ChangeShapes Go.WideShapes Go.ChangeAt Go.RowKit

/-- What nextHead hands back: the head of the text to come, or an error, of which areaFault tells AreaPut's code. -/
def NextRet (a0 a1 a2 a3 : Addr) (w : World) (d : Dk) (t : ByteArray) (e : Ending) (w' : World) : Prop := Below w.heap.size w w' ∧
  ((∃ (g n : Int) (s : Nat) (x : ByteArray), e = .returned (.tuple #[.agg #[.int .i64 (g + 1), .int .i64 ((1 - s : Nat) : Int), .int .i64 (t.size : Int)], .nilIface]) ∧ Right d ∧ s ≤ 1 ∧ seenH (readT d 0) (64 * halfN d) = (g, (s : Int), n, 0) ∧ readAo d = ⟨d, x, g, 0⟩ ∧ 0 ≤ g ∧ ¬ (64 * halfN d < t.size ∨ 1000000 ≤ g)) ∨
   (∃ (x : TypeId) (y : Value) (c : Int), e = .returned (.tuple #[.agg #[.int .i64 0, .int .i64 0, .int .i64 0], .iface x y]) ∧ (∀ steps, ¬ 8000 < t.size → putAo d t steps = illAo c) ∧ ∀ W, Sents W a0 a1 a2 a3 → ErrVar W → Calls Tryz.prog 36 #[.iface x y] W (OwnsAo W (illAo c))))

theorem readAo_right {d : Dk} (h : ¬ Right d) (t : ByteArray) (steps : Int) (h8 : ¬ 8000 < t.size) {c : Int} (hr : readAo d = illAo c) : putAo d t steps = illAo c := by
  rw [readAo_form h] at hr
  have : c = 1 := by
    have := congrArg Ao.code hr
    exact this.symm
  rw [putAo_form h8 h, this]

set_option maxRecDepth 100000 in
set_option maxHeartbeats 4000000 in
theorem impl_nexthead {a0 a1 a2 a3 : Addr} (v : Value) (d : Dk) (t : ByteArray) (w : World) (hv : DkAt w w.heap.size v d) (hd : Small d) (hs : Sents w a0 a1 a2 a3) (he : ErrVar w) :
    Calls Tryz.prog 38 #[v, .string t] w (NextRet a0 a1 a2 a3 w d t) := by
  obtain ⟨vs, vp, rfl, hs', hp⟩ := hv
  obtain ⟨A1, c1, rfl⟩ := hs'.form
  obtain ⟨A2, c2, rfl⟩ := hp.form
  have HL := Lib.hid (led_two w (.cells #[.slice A1 d.S.length c1, .slice A2 d.P.length c2] 26) (.cells #[.int .i64 0, .int .i64 0, .int .i64 0] 58) (d := d) ⟨_, _, rfl, hs', hp⟩)
  have HSM := Lib.hid hd; have HS := Lib.hid hs; have HV := Lib.hid he
  have hd1 := hd.1; have hd2 := hd.2.2.1
  clear hs' hp hd hs he
  go_enter Tryz.func38, Tryz.ntmps38
  go_wp2_with fail
  refine (impl_areaon _ d _ (HL.out.at_ List.mem_cons_self) HSM.out (HS.out.lift HL.out.bel) (HV.out.lift HL.out.bel)).mono ?_
  rintro e w1 ⟨hb, hr⟩
  replace HL := Lib.hid (HL.out.lift hb)
  clear hb
  have HZ := Lib.hid (HL.out.blk _ List.mem_cons_self)
  obtain ⟨z0, z1, z2⟩ := box3 HZ.out
  obtain ⟨k0, k1, k2, _⟩ := box_frozen HZ.out
  have hz := block_lt HZ.out
  have HBF := Lib.hid HL.out.bel
  rcases hr with ⟨g, s, n, x, rfl, hR, hse, hE⟩ | ⟨x, y, c, hc, rfl, hE, hF⟩
  · have HE := Lib.hid hE
    have hsp := seen_parts hse
    have HSE := Lib.hid hse
    have HRR := Lib.hid hR
    obtain ⟨hg0, hgi, hs0, hs1⟩ : 0 ≤ g ∧ I64 g ∧ 0 ≤ s ∧ s ≤ 1 := by
      rcases hsp with ⟨_, a, b, c, d, _⟩ | ⟨_, _, _, h⟩
      · exact ⟨a, b, c, d⟩
      · omega
    obtain ⟨s, rfl⟩ := Int.eq_ofNat_of_zero_le hs0
    obtain ⟨s2, hs2⟩ : ∃ x : Nat, x = 1 - s := ⟨_, rfl⟩
    have hsb : (1 : Int) - (s : Int) = (s2 : Int) := by omega
    have hw1 : IntKind.i64.wrap (s2 : Int) = (s2 : Int) := IntWalk.i64_in _ (by omega)
    obtain ⟨rm, hrm⟩ : ∃ x : Int, x = (roomN d : Int) := ⟨_, rfl⟩
    have HROOM := Lib.hid (fun W (h : DkAt W W.heap.size (.agg #[.slice A1 d.S.length c1, .slice A2 d.P.length c2]) d) => impl_room _ d W h (by omega) (by omega))
    rw [← hrm] at HROOM
    have HRM := Lib.hid (show rm = ((64 * halfN d : Nat) : Int) by rw [hrm, roomN_yes hR])
    have HS2 := Lib.hid hs2
    clear hE hse hR hsp hrm hs2
    replace HL := Lib.hid (HL.out.alloc (.cells #[.int .i64 g, .int .i64 (s : Int), .int .i64 n] 58))
    obtain ⟨y0, y1, yl⟩ := HL.out.b2 (List.mem_cons_of_mem _ (List.mem_cons_of_mem _ List.mem_cons_self))
    go_wp2_with fail
    refine (HROOM.out _ (HL.out.at_ List.mem_cons_self)).mono ?_
    rintro e w2 ⟨rfl, hb⟩
    replace HL := Lib.hid (HL.out.lift hb)
    clear hb y0 y1 yl z0 z1 z2 k0 k1 k2 hz HZ HBF
    have HZ := Lib.hid (HL.out.blk _ (List.mem_cons_of_mem _ List.mem_cons_self))
    obtain ⟨z0, z1, z2⟩ := box3 HZ.out
    obtain ⟨k0, k1, k2, _⟩ := box_frozen HZ.out
    have hz := block_lt HZ.out
    have HBF := Lib.hid HL.out.bel
    obtain ⟨q0, q1, q2, ql⟩ := HL.out.b3 List.mem_cons_self
    have hrc := (HS.out.s3.lift HBF.out).cell
    have hrl := (HS.out.s3.lift HBF.out).lt
    have hrl0 := HS.out.s3.lt
    have hne0 : ¬ w.heap.size + 1 = 1 := by omega
    have hne0' : ¬ 1 = w.heap.size + 1 := by omega
    by_cases hbig : rm < (t.size : Int)
    · have HF := Lib.hid (fun steps h8 => putAo_full (steps := steps) (t := t) h8 HRR.out HE.out (.inl (by have := HRM.out; omega)))
      go_wp2
      go_region
      all_goals
        go_wp2
        refine bodyPost_ret (v := .tuple #[.agg #[.int .i64 0, .int .i64 0, .int .i64 0], .iface 179 (.pointer (some a3))]) (by simp [results, Tryz.results38, go_sem, z0, z1, z2]) rfl ⟨?_, .inr ⟨_, _, 9, rfl, HF.out, fun W hS _ => fault_noroom W hS⟩⟩
        repeat (first | refine Below.setCell ?_ (by simp only; omega) _ | refine Below.drew ?_)
        exact HBF.out
    · by_cases hgen : 1000000 ≤ g
      · have hgen' : ¬ g < 1000000 := by omega
        have HF := Lib.hid (fun steps h8 => putAo_full (steps := steps) (t := t) h8 HRR.out HE.out (.inr hgen))
        go_wp2
        go_region
        all_goals
          go_wp2
          refine bodyPost_ret (v := .tuple #[.agg #[.int .i64 0, .int .i64 0, .int .i64 0], .iface 179 (.pointer (some a3))]) (by simp [results, Tryz.results38, go_sem, z0, z1, z2]) rfl ⟨?_, .inr ⟨_, _, 9, rfl, HF.out, fun W hS _ => fault_noroom W hS⟩⟩
          repeat (first | refine Below.setCell ?_ (by simp only; omega) _ | refine Below.drew ?_)
          exact HBF.out
      · have hgen' : g < 1000000 := by omega
        have hw2 : IntKind.i64.wrap (g + 1) = g + 1 := IntWalk.i64_in _ (by omega)
        go_wp2
        refine bodyPost_ret (v := .tuple #[.agg #[.int .i64 (g + 1), .int .i64 (s2 : Int), .int .i64 (t.size : Int)], .nilIface]) (by simp [results, Tryz.results38, go_sem, z0, z1, z2]) rfl ⟨?_, .inl ⟨g, n, s, x, by rw [HS2.out], HRR.out, by omega, HSE.out, HE.out, hg0, by have := HRM.out; omega⟩⟩
        repeat (first | refine Below.setCell ?_ (by simp only; omega) _ | refine Below.drew ?_)
        exact HBF.out
  · have HF := Lib.hid hF
    have HE := Lib.hid (show ∀ steps, ¬ 8000 < t.size → putAo d t steps = illAo c from fun steps h8 => by
      by_cases hR : Right d
      · exact putAo_read h8 hR hE hc
      · exact readAo_right hR t steps h8 hE)
    clear hE hF hc
    go_wp2
    refine bodyPost_ret (v := .tuple #[.agg #[.int .i64 0, .int .i64 0, .int .i64 0], .iface x y]) (by simp [results, Tryz.results38, go_sem, z0, z1, z2, hz]) rfl ⟨?_, .inr ⟨_, _, c, rfl, HE.out, HF.out⟩⟩
    repeat (first | refine Below.setCell ?_ (by simp only; omega) _ | refine Below.drew ?_ | refine Below.alloc ?_ (by first | exact Nat.le_refl _ | (simp only [World.size_alloc]; omega) | (simp; omega)) _)
    exact HBF.out

end Go.Proofs.YthchlfllcnlmjaaGreatDoor

/-! AreaPut's rounds: what the ledger says behind each. -/
namespace Go.Proofs.YthchlfllcnlmjaaGreatDoor
open Go.RowKit

theorem Led.b5 {w W : World} {L : List (Nat × Obj)} {D O : List (Nat × Value × Dk)} (h : Led w W L D O) {b : Nat} {x0 x1 x2 x3 x4 : Value} {T : TypeId} (hm : (b, Obj.cells #[x0, x1, x2, x3, x4] T (0, 0)) ∈ L) : W.cell? ⟨b, 0, none⟩ = some x0 ∧ W.cell? ⟨b, 1, none⟩ = some x1 ∧ W.cell? ⟨b, 2, none⟩ = some x2 ∧ W.cell? ⟨b, 3, none⟩ = some x3 ∧ W.cell? ⟨b, 4, none⟩ = some x4 ∧ b < W.heap.size := by
  obtain ⟨h1, h2, h3, h4, h5⟩ := box5 (h.blk _ hm)
  exact ⟨h1, h2, h3, h4, h5, block_lt (h.blk _ hm)⟩
theorem Led.put1 {w W : World} {L : List (Nat × Obj)} {D : List (Nat × Value × Dk)} (h : Led w W L D []) {b : Nat} (k : Nat) (u : Value) (hz : w.heap.size ≤ b) (hL : ∀ q ∈ L, q.1 ≠ b) (hD : ∀ q ∈ D, q.1 ≤ b) : Led w (W.setCell ⟨b, k, none⟩ u) L D [] :=
  h.within (lo := b) (hi := b + 1) (Within.of_grown (grown_set W b k u) (fun g hg => by cases hg; omega)) hz (fun q hq => by have := hL q hq; omega) hD (fun q hq => by cases hq)
/-- A disk's answer is stored in its box. -/
theorem led_fill {w W : World} {L : List (Nat × Obj)} {D : List (Nat × Value × Dk)} {b B0 : Nat} {x0 x1 x2 x3 s p c2 c3 : Value} {d : Dk} (h : Led w W ((b, .cells #[x0, x1, x2, x3] 68 (0, 0)) :: L) D []) (hz : w.heap.size ≤ b) (hL : ∀ q ∈ L, q.1 ≠ b) (hD : ∀ q ∈ D, q.1 ≤ b) (ho : DkOw W B0 (.agg #[s, p]) d) :
    Led w ((((W.setCell ⟨b, 0, none⟩ s).setCell ⟨b, 1, none⟩ p).setCell ⟨b, 2, none⟩ c2).setCell ⟨b, 3, none⟩ c3) ((b, .cells #[s, p, c2, c3] 68 (0, 0)) :: L) D [] ∧ DkOw ((((W.setCell ⟨b, 0, none⟩ s).setCell ⟨b, 1, none⟩ p).setCell ⟨b, 2, none⟩ c2).setCell ⟨b, 3, none⟩ c3) B0 (.agg #[s, p]) d := by
  have hb := h.blk _ List.mem_cons_self
  have e0 := block_set hb 0 s
  have e1 := block_set e0 1 p
  have e2 := block_set e1 2 c2
  have e3 := block_set e2 3 c3
  have h1 := (((h.forget.put1 0 s hz hL hD).put1 1 p hz hL hD).put1 2 c2 hz hL hD).put1 3 c3 hz hL hD
  exact ⟨h1.know e3, ((((ho.beside' hb (by decide) (by decide) 0 s).beside' e0 (by decide) (by decide) 1 p).beside' e1 (by decide) (by decide) 2 c2).beside' e2 (by decide) (by decide) 3 c3)⟩
/-- The disk at work is stored anew. -/
theorem put_round {w W : World} {L : List (Nat × Obj)} {D : List (Nat × Value × Dk)} {b B0 : Nat} {y0 y1 s p : Value} {d : Dk} {q0 : Nat × Obj} (h : Led w W (q0 :: (b, .cells #[y0, y1] 26 (0, 0)) :: L) D []) (hz : w.heap.size ≤ b) (hL : ∀ q ∈ L, q.1 ≠ b) (hD : ∀ q ∈ D, q.1 ≤ b) (ho : DkOw W B0 (.agg #[s, p]) d) :
    Led w ((W.setCell ⟨b, 0, none⟩ s).setCell ⟨b, 1, none⟩ p) ((b, .cells #[s, p] 26 (0, 0)) :: L) D [(B0, .agg #[s, p], d)] := by
  have hb := h.blk _ (List.mem_cons_of_mem _ List.mem_cons_self)
  have e0 := block_set hb 0 s
  have e1 := block_set e0 1 p
  have h1 := ((h.forget.forget.put1 0 s hz hL hD).put1 1 p hz hL hD)
  exact (h1.know e1).hold ((ho.beside' hb (by decide) (by decide) 0 s).beside' e0 (by decide) (by decide) 1 p)
/-- The same, where the answer's box is made behind. -/
theorem put_round_made {w W : World} {L : List (Nat × Obj)} {D : List (Nat × Value × Dk)} {b B0 : Nat} {y0 y1 s p : Value} {d : Dk} (h : Led w W ((b, .cells #[y0, y1] 26 (0, 0)) :: L) D []) (o : Obj) (hz : w.heap.size ≤ b) (hL : ∀ q ∈ L, q.1 ≠ b) (hD : ∀ q ∈ D, q.1 ≤ b) (ho : DkOw W B0 (.agg #[s, p]) d) :
    Led w (((W.setCell ⟨b, 0, none⟩ s).setCell ⟨b, 1, none⟩ p).alloc o) ((b, .cells #[s, p] 26 (0, 0)) :: L) D [(B0, .agg #[s, p], d)] := by
  have hb := h.blk _ List.mem_cons_self
  have e0 := block_set hb 0 s
  have e1 := block_set e0 1 p
  have h1 := ((h.forget.put1 0 s hz hL hD).put1 1 p hz hL hD)
  exact ((h1.know e1).hold ((ho.beside' hb (by decide) (by decide) 0 s).beside' e0 (by decide) (by decide) 1 p)).made o

end Go.Proofs.YthchlfllcnlmjaaGreatDoor
