/-
  One more put among a row in order: contracts of the program, for marks, items, names.
-/
import Derived.Test.YtaggmcdfggmlhaaFind
import Derived.Test.YtaggmcdfggmlhaaFull
namespace Go.Proofs.Ytaggmcdfggmlhaa
set_option linter.unusedSimpArgs false
set_option linter.unusedVariables false
open Go.ChangeShapes Go.WideShapes Go.ChangeAt Go.RowKit

/-- The row with x: the same slice where x's name is there, else a row of the call's own. -/
def WithR {α : Type} (E : TypeId) (k : Nat) (enc : α → List Value) (f : α → Nm) (v : Value) (l : List α) (x : α) (w : World) (e : Ending) (w' : World) : Prop :=
  ∃ v', e = .returned v' ∧ Below w.heap.size w w' ∧ (ThereP f l (f x) → v' = v) ∧ (¬ ThereP f l (f x) → Ow w' w.heap.size E k enc v' (withR f l x))

/-- What is behind the first n, as a slice expression gives it. -/
theorem sl_dropif {α : Type} {w : World} {B k c g : Nat} {enc : α → List Value} {l : List α} (h : Sl w B k enc (.slice (some ⟨g, 0, none⟩) l.length c) l) (n c' : Nat) (hn : n ≤ l.length) (hc : l.length ≤ c) : Sl w B k enc (.slice (if c = n then some ⟨g, 0, none⟩ else some ⟨g, n * k, none⟩) (l.length - n) c') (l.drop n) := by
  by_cases e : c = n
  · have e2 : l.drop n = [] := List.drop_eq_nil_iff.2 (by omega)
    have e3 : l.length - n = 0 := by omega
    rw [e2, e3]
    exact Sl.nil_ w _ k enc _ _
  · rw [if_neg e]
    have := sl_drop h n c' hn
    have e4 : (⟨g, 0, none⟩ : Addr).add (n * k) = ⟨g, n * k, none⟩ := by
      unfold Addr.add
      split
      · rename_i h0; rw [h0]
      · simp
    rw [e4] at this
    exact this

set_option maxRecDepth 100000 in
set_option maxHeartbeats 8000000 in
theorem impl_withK (v : Value) (l : List Nm) (x : Nm) (base : Nat) (w : World) (hw : Ow w base 113 2 encN v l) (hl : l.length ≤ 1048576) (hr : Rise nmK l) :
    Calls Try.prog 69 #[v, vN x] w (WithR 113 2 encN nmK v l x w) := by
  have hv := hw.sl encN_len
  have HW := Lib.hid hw; clear hw
  have HF := Lib.hid (fun W (hb : Below w.heap.size w W) => impl_findK v l (nmK x) W ((hv.below hb).more hb.size) (by omega) hr)
  obtain ⟨A, c, rfl⟩ := hv.form
  have HV := Lib.hid hv; clear hv
  have hs := spot_le nmK l (nmK x)
  have HB := Lib.hid (thereB_iff nmK l (nmK x))
  obtain ⟨s, hs2⟩ : ∃ s, s = spot nmK l (nmK x) := ⟨_, rfl⟩
  obtain ⟨b, hb2⟩ : ∃ b, b = thereB nmK l (nmK x) := ⟨_, rfl⟩
  have HS := Lib.hid hs2
  have HNEW := Lib.hid (fun h => with_new (f := nmK) (l := l) (x := x) h)
  rw [← hs2] at HF hs HNEW
  rw [← hb2] at HF HB
  clear hs2 hb2
  have HSL := Lib.hid hs
  have HTL := Lib.hid (show (l.take s).length = s by rw [List.length_take]; omega)
  have HN1 := Lib.hid (show (l.take s ++ [x]).length = s + 1 by rw [List.length_append, List.length_take]; simp; omega)
  have HL := Lib.hid ((Lg.start w).alloc (.cells #[.int .i64 x.c, .int .i64 x.k] 113))
  go_enter Try.func69, Try.ntmps69
  go_wp2_with fail
  refine (impl_nmK x _).mono ?_
  rintro e w1 ⟨rfl, hb⟩
  replace HL := Lib.hid (HL.out.lift hb); clear hb
  go_wp2_with fail
  refine (HF.out _ HL.out.bel).mono ?_
  rintro e w2 ⟨rfl, hb⟩
  replace HL := Lib.hid (HL.out.lift hb); clear hb
  cases b with
  | true =>
    have HE := Lib.hid (HB.out.1 rfl)
    go_wp2
    go_ret
    exact ⟨_, rfl, HL.out.bel, fun _ => rfl, fun h => absurd HE.out h⟩
  | false =>
    have HE := Lib.hid (show ¬ ThereP nmK l (nmK x) from fun h => by have := HB.out.2 h; cases this)
    rcases HW.out.2 with ⟨hA, h0⟩ | ⟨gg, cap, cur, hA, -, -, hc1, hc2, -⟩
    · simp only [Value.slice.injEq] at hA
      obtain ⟨rfl, _, rfl⟩ := hA
      obtain rfl : l = [] := List.length_eq_zero_iff.1 h0
      obtain rfl : s = 0 := by have := HSL.out; simp at this; exact this
      go_upto_region 4 with fail
      refine wp_region_calm_lg_tail [(5, (fun u => ∃ g, u = .slice (some ⟨g, 0, none⟩) 1 1), fun u W => Sl W W.heap.size 2 encN u [x]), (6, (fun u => ∃ C c, u = .slice C 1 c), fun u W => Ow W w.heap.size 113 2 encN u [x])] 10 (by kernel_rfl) (by kernel_rfl) (by intro p hp v; simp only [List.mem_cons, List.not_mem_nil, or_false] at hp; rcases hp with rfl | rfl <;> first | exact fun _ _ hb h => Ow.lift h hb | exact fun _ _ hb h => (h.below hb).more hb.size) HL.out ?_
      repeat (first
        | (refine calm_skip (by rfl) ?_; try simp only [Act.put, List.setIfInBounds_toArray, List.set_cons_zero, List.set_cons_succ])
        | (refine calm_plain (by rfl) (by rfl) ?_; apply Exists.intro; refine ⟨fun wc hC hD => ?_, ?_⟩; (focus (clear hD; obtain ⟨c0, c1⟩ := box2 (hC.blk _ List.mem_cons_self); clear hC; go_simp; first | done | with_reducible rfl)); try simp only [Act.put, List.setIfInBounds_toArray, List.set_cons_zero, List.set_cons_succ]))
      refine calm_make _ _ (by rfl) (by rfl) ?_ ?_
      focus
        intro wc hC hD
        have hz := block_lt (hC.blk _ List.mem_cons_self)
        clear hD
        exact ⟨.slice (some ⟨wc.heap.size, 0, none⟩) 1 1, wc.alloc (.cells #[.int .i64 x.c, .int .i64 x.k] 113), (by clear hC; go_simp), (Below.refl _ _).alloc (Nat.le_refl _) _, ⟨_, rfl⟩, (sl_single (heap_alloc_new _ _) 2 encN x rfl).more (by simp)⟩
      rintro _ ⟨g, rfl⟩
      try simp only [Act.put, List.setIfInBounds_toArray, List.set_cons_zero, List.set_cons_succ]
      repeat (first
        | (refine calm_skip (by rfl) ?_; try simp only [Act.put, List.setIfInBounds_toArray, List.set_cons_zero, List.set_cons_succ])
        | (refine calm_plain (by rfl) (by rfl) ?_; apply Exists.intro; refine ⟨fun wc hC hD => ?_, ?_⟩; (focus (clear hD; obtain ⟨c0, c1⟩ := box2 (hC.blk _ List.mem_cons_self); clear hC; go_simp; first | done | with_reducible rfl)); try simp only [Act.put, List.setIfInBounds_toArray, List.set_cons_zero, List.set_cons_succ]))
      refine calm_make _ _ (by rfl) (by rfl) ?_ ?_
      focus
        intro wc hC hD
        have hz := block_lt (hC.blk _ List.mem_cons_self)
        have ha := Deps.get hD 5 (by kernel_rfl)
        simp [upd, noF] at ha
        clear hD
        obtain ⟨v', w', hr, hb, ho⟩ := run_append_full rowKType 110 wc w.heap.size _ encN none [] (Sl.nil_ wc _ 2 encN 0 none) _ [x] ha (by simp) encN_len encN_one (by simp; unfold maxLen; omega) (by simp)
        obtain ⟨C, c2, rfl⟩ := ho.form
        exact ⟨_, w', exec_append rfl rfl rfl hr, hb, ⟨_, _, rfl⟩, ho.base (by have := hC.bel.size; omega)⟩
      rintro _ ⟨C, c2, rfl⟩
      try simp only [Act.put, List.setIfInBounds_toArray, List.set_cons_zero, List.set_cons_succ]
      repeat (first
        | (refine calm_skip (by rfl) ?_; try simp only [Act.put, List.setIfInBounds_toArray, List.set_cons_zero, List.set_cons_succ])
        | (refine calm_plain (by rfl) (by rfl) ?_; apply Exists.intro; refine ⟨fun wc hC hD => ?_, ?_⟩; (focus (clear hD; obtain ⟨c0, c1⟩ := box2 (hC.blk _ List.mem_cons_self); clear hC; go_simp; first | done | with_reducible rfl)); try simp only [Act.put, List.setIfInBounds_toArray, List.set_cons_zero, List.set_cons_succ]))
      refine calm_end ?_
      intro w7 hL7 hF7
      have hO := hF7 6
      simp [upd, noF] at hO
      clear hF7
      replace HL := Lib.hid hL7
      clear hL7
      simp only [List.drop_succ_cons, List.drop_zero]
      have HO := Lib.hid (show w7.ownsRow w.heap.size 113 2 (.slice C 1 c2) 1 ([x].flatMap encN) from by have h := hO; unfold Ow at h; exact h)
      clear hO
      go_wp2_with (at_builtin; refine list_append_sl rowKType _ rfl _ _ rfl w.heap.size (.slice C 1 c2) 1 _ rfl HO.out w.heap.size encN _ [] rfl (Sl.nil_ _ _ 2 encN _ _) encN_len encN_one ?c3 ?c4 ?c5 ?_)
      case c3 => simp; unfold maxLen; omega
      case c4 => simp
      case c5 => have := HL.out.bel.size; omega
      intro v3 w3 g3
      obtain ⟨A', c', rfl⟩ := g3.form
      have HG := Lib.hid g3.1
      have HB3 := Lib.hid (HL.out.bel.trans (g3.below (fun g hgg => (World.ownsRow.lt HO.out g hgg).1) HL.out.bel.size))
      clear g3
      go_wp2
      go_ret
      refine ⟨_, rfl, HB3.out, fun h => absurd h HE.out, fun _ => ?_⟩
      rw [HNEW.out HE.out]
      have h := HG.out
      simpa [Ow] using h
    · simp only [Value.slice.injEq, true_and] at hA
      obtain ⟨rfl, rfl⟩ := hA
      have hsc : s ≤ c := by omega
      have hlc : l.length ≤ c := hc1
      go_upto_region 4 with fail
      refine wp_region_calm_lg_tail [(5, (fun u => ∃ g, u = .slice (some ⟨g, 0, none⟩) 1 1), fun u W => Sl W W.heap.size 2 encN u [x]), (6, (fun u => ∃ C c, u = .slice C (s + 1) c), fun u W => Ow W w.heap.size 113 2 encN u (l.take s ++ [x]))] 10 (by kernel_rfl) (by kernel_rfl) (by intro p hp v; simp only [List.mem_cons, List.not_mem_nil, or_false] at hp; rcases hp with rfl | rfl <;> first | exact fun _ _ hb h => Ow.lift h hb | exact fun _ _ hb h => (h.below hb).more hb.size) HL.out ?_
      repeat (first
        | (refine calm_skip (by rfl) ?_; try simp only [Act.put, List.setIfInBounds_toArray, List.set_cons_zero, List.set_cons_succ])
        | (refine calm_plain (by rfl) (by rfl) ?_; apply Exists.intro; refine ⟨fun wc hC hD => ?_, ?_⟩; (focus (clear hD; obtain ⟨c0, c1⟩ := box2 (hC.blk _ List.mem_cons_self); clear hC; go_simp; first | done | with_reducible rfl)); try simp only [Act.put, List.setIfInBounds_toArray, List.set_cons_zero, List.set_cons_succ]))
      refine calm_make _ _ (by rfl) (by rfl) ?_ ?_
      focus
        intro wc hC hD
        have hz := block_lt (hC.blk _ List.mem_cons_self)
        clear hD
        exact ⟨.slice (some ⟨wc.heap.size, 0, none⟩) 1 1, wc.alloc (.cells #[.int .i64 x.c, .int .i64 x.k] 113), (by clear hC; go_simp), (Below.refl _ _).alloc (Nat.le_refl _) _, ⟨_, rfl⟩, (sl_single (heap_alloc_new _ _) 2 encN x rfl).more (by simp)⟩
      rintro _ ⟨g, rfl⟩
      try simp only [Act.put, List.setIfInBounds_toArray, List.set_cons_zero, List.set_cons_succ]
      repeat (first
        | (refine calm_skip (by rfl) ?_; try simp only [Act.put, List.setIfInBounds_toArray, List.set_cons_zero, List.set_cons_succ])
        | (refine calm_plain (by rfl) (by rfl) ?_; apply Exists.intro; refine ⟨fun wc hC hD => ?_, ?_⟩; (focus (clear hD; obtain ⟨c0, c1⟩ := box2 (hC.blk _ List.mem_cons_self); clear hC; go_simp; first | done | with_reducible rfl)); try simp only [Act.put, List.setIfInBounds_toArray, List.set_cons_zero, List.set_cons_succ]))
      refine calm_make _ _ (by rfl) (by rfl) ?_ ?_
      focus
        intro wc hC hD
        have hz := block_lt (hC.blk _ List.mem_cons_self)
        have ha := Deps.get hD 5 (by kernel_rfl)
        simp [upd, noF] at ha
        clear hD
        obtain ⟨v', w', hr, hb, ho⟩ := run_append_full rowKType 110 wc w.heap.size _ encN _ (l.take s) (by rw [HTL.out]; exact sl_take (HV.out.below hC.bel) s s HSL.out) _ [x] ha (by simp) encN_len encN_one (by rw [HTL.out]; have := HSL.out; simp; unfold maxLen; omega) (by rw [HTL.out]; have := HSL.out; simp; omega)
        rw [HTL.out] at hr
        obtain ⟨C, c2, rfl⟩ := ho.form
        rw [HN1.out] at hr ho
        exact ⟨_, w', exec_append rfl rfl rfl hr, hb, ⟨_, _, rfl⟩, ho.base (by have := hC.bel.size; omega)⟩
      rintro _ ⟨C, c2, rfl⟩
      try simp only [Act.put, List.setIfInBounds_toArray, List.set_cons_zero, List.set_cons_succ]
      repeat (first
        | (refine calm_skip (by rfl) ?_; try simp only [Act.put, List.setIfInBounds_toArray, List.set_cons_zero, List.set_cons_succ])
        | (refine calm_plain (by rfl) (by rfl) ?_; apply Exists.intro; refine ⟨fun wc hC hD => ?_, ?_⟩; (focus (clear hD; obtain ⟨c0, c1⟩ := box2 (hC.blk _ List.mem_cons_self); clear hC; go_simp; first | done | with_reducible rfl)); try simp only [Act.put, List.setIfInBounds_toArray, List.set_cons_zero, List.set_cons_succ]))
      refine calm_end ?_
      intro w7 hL7 hF7
      have hO := hF7 6
      simp [upd, noF] at hO
      clear hF7
      replace HL := Lib.hid hL7
      clear hL7
      simp only [List.drop_succ_cons, List.drop_zero]
      have HO := Lib.hid (show w7.ownsRow w.heap.size 113 2 (.slice C (s + 1) c2) (s + 1) ((l.take s ++ [x]).flatMap encN) from by have h := hO; unfold Ow at h; rw [HN1.out] at h; exact h)
      clear hO
      have HSD := Lib.hid (sl_dropif (HV.out.below HL.out.bel) s (c - s) HSL.out hlc)
      generalize (if c = s then some (⟨gg, 0, none⟩ : Addr) else some ⟨gg, s * 2, none⟩) = Y at HSD ⊢
      go_wp2_with (at_builtin; refine list_append_sl rowKType _ rfl _ _ rfl w.heap.size (.slice C (s + 1) c2) (s + 1) _ rfl HO.out _ encN _ (l.drop s) rfl HSD.out encN_len encN_one ?c3 ?c4 ?c5 ?_)
      case c3 => have := HSL.out; simp; unfold maxLen; omega
      case c4 => have := HSL.out; simp; omega
      case c5 => have := HL.out.bel.size; omega
      intro v3 w3 g3
      obtain ⟨A', c', rfl⟩ := g3.form
      have HG := Lib.hid g3.1
      have HB3 := Lib.hid (HL.out.bel.trans (g3.below (fun g hgg => (World.ownsRow.lt HO.out g hgg).1) HL.out.bel.size))
      clear g3
      go_wp2
      go_ret
      refine ⟨.slice A' (s + 1 + (l.length - s)) c', rfl, HB3.out, fun h => absurd h HE.out, fun _ => ?_⟩
      rw [HNEW.out HE.out]
      have e : l.take s ++ x :: l.drop s = (l.take s ++ [x]) ++ l.drop s := by simp
      rw [e]
      unfold Ow
      rw [List.length_append, HN1.out, List.length_drop, List.flatMap_append]
      have h := HG.out
      simpa using h

set_option maxRecDepth 100000 in
set_option maxHeartbeats 8000000 in
theorem impl_withM (v : Value) (l : List Im) (x : Im) (base : Nat) (w : World) (hw : Ow w base 91 8 encM v l) (hl : l.length ≤ 1048576) (hr : Rise Im.i l) :
    Calls Try.prog 68 #[v, vM x] w (WithR 91 8 encM Im.i v l x w) := by
  have hv := hw.sl encM_len
  have HW := Lib.hid hw; clear hw
  have HF := Lib.hid (fun W (hb : Below w.heap.size w W) => impl_findM v l x.i W ((hv.below hb).more hb.size) (by omega) hr)
  obtain ⟨A, c, rfl⟩ := hv.form
  have HV := Lib.hid hv; clear hv
  have hs := spot_le Im.i l x.i
  have HB := Lib.hid (thereB_iff Im.i l x.i)
  obtain ⟨s, hs2⟩ : ∃ s, s = spot Im.i l x.i := ⟨_, rfl⟩
  obtain ⟨b, hb2⟩ : ∃ b, b = thereB Im.i l x.i := ⟨_, rfl⟩
  have HS := Lib.hid hs2
  have HNEW := Lib.hid (fun h => with_new (f := Im.i) (l := l) (x := x) h)
  rw [← hs2] at HF hs HNEW
  rw [← hb2] at HF HB
  clear hs2 hb2
  have HSL := Lib.hid hs
  have HTL := Lib.hid (show (l.take s).length = s by rw [List.length_take]; omega)
  have HN1 := Lib.hid (show (l.take s ++ [x]).length = s + 1 by rw [List.length_append, List.length_take]; simp; omega)
  have HL := Lib.hid ((Lg.start w).alloc (.cells #[.int .i64 x.i.c, .int .i64 x.i.k, .int .i64 x.l.c, .int .i64 x.l.k, .int .i64 x.r.c, .int .i64 x.r.k, .string x.t, .bool x.g] 91))
  go_enter Try.func68, Try.ntmps68
  go_wp2_with fail
  refine (impl_nmM x _).mono ?_
  rintro e w1 ⟨rfl, hb⟩
  replace HL := Lib.hid (HL.out.lift hb); clear hb
  go_wp2_with fail
  refine (HF.out _ HL.out.bel).mono ?_
  rintro e w2 ⟨rfl, hb⟩
  replace HL := Lib.hid (HL.out.lift hb); clear hb
  cases b with
  | true =>
    have HE := Lib.hid (HB.out.1 rfl)
    go_wp2
    go_ret
    exact ⟨_, rfl, HL.out.bel, fun _ => rfl, fun h => absurd HE.out h⟩
  | false =>
    have HE := Lib.hid (show ¬ ThereP Im.i l x.i from fun h => by have := HB.out.2 h; cases this)
    rcases HW.out.2 with ⟨hA, h0⟩ | ⟨gg, cap, cur, hA, -, -, hc1, hc2, -⟩
    · simp only [Value.slice.injEq] at hA
      obtain ⟨rfl, _, rfl⟩ := hA
      obtain rfl : l = [] := List.length_eq_zero_iff.1 h0
      obtain rfl : s = 0 := by have := HSL.out; simp at this; exact this
      go_upto_region 4 with fail
      refine wp_region_calm_lg_tail [(5, (fun u => ∃ g, u = .slice (some ⟨g, 0, none⟩) 1 1), fun u W => Sl W W.heap.size 8 encM u [x]), (6, (fun u => ∃ C c, u = .slice C 1 c), fun u W => Ow W w.heap.size 91 8 encM u [x])] 10 (by kernel_rfl) (by kernel_rfl) (by intro p hp v; simp only [List.mem_cons, List.not_mem_nil, or_false] at hp; rcases hp with rfl | rfl <;> first | exact fun _ _ hb h => Ow.lift h hb | exact fun _ _ hb h => (h.below hb).more hb.size) HL.out ?_
      repeat (first
        | (refine calm_skip (by rfl) ?_; try simp only [Act.put, List.setIfInBounds_toArray, List.set_cons_zero, List.set_cons_succ])
        | (refine calm_plain (by rfl) (by rfl) ?_; apply Exists.intro; refine ⟨fun wc hC hD => ?_, ?_⟩; (focus (clear hD; obtain ⟨c0, c1, c2, c3, c4, c5, c6, c7⟩ := box8 (hC.blk _ List.mem_cons_self); clear hC; go_simp; first | done | with_reducible rfl)); try simp only [Act.put, List.setIfInBounds_toArray, List.set_cons_zero, List.set_cons_succ]))
      refine calm_make _ _ (by rfl) (by rfl) ?_ ?_
      focus
        intro wc hC hD
        have hz := block_lt (hC.blk _ List.mem_cons_self)
        clear hD
        exact ⟨.slice (some ⟨wc.heap.size, 0, none⟩) 1 1, wc.alloc (.cells #[.int .i64 x.i.c, .int .i64 x.i.k, .int .i64 x.l.c, .int .i64 x.l.k, .int .i64 x.r.c, .int .i64 x.r.k, .string x.t, .bool x.g] 91), (by clear hC; go_simp), (Below.refl _ _).alloc (Nat.le_refl _) _, ⟨_, rfl⟩, (sl_single (heap_alloc_new _ _) 8 encM x rfl).more (by simp)⟩
      rintro _ ⟨g, rfl⟩
      try simp only [Act.put, List.setIfInBounds_toArray, List.set_cons_zero, List.set_cons_succ]
      repeat (first
        | (refine calm_skip (by rfl) ?_; try simp only [Act.put, List.setIfInBounds_toArray, List.set_cons_zero, List.set_cons_succ])
        | (refine calm_plain (by rfl) (by rfl) ?_; apply Exists.intro; refine ⟨fun wc hC hD => ?_, ?_⟩; (focus (clear hD; obtain ⟨c0, c1, c2, c3, c4, c5, c6, c7⟩ := box8 (hC.blk _ List.mem_cons_self); clear hC; go_simp; first | done | with_reducible rfl)); try simp only [Act.put, List.setIfInBounds_toArray, List.set_cons_zero, List.set_cons_succ]))
      refine calm_make _ _ (by rfl) (by rfl) ?_ ?_
      focus
        intro wc hC hD
        have hz := block_lt (hC.blk _ List.mem_cons_self)
        have ha := Deps.get hD 5 (by kernel_rfl)
        simp [upd, noF] at ha
        clear hD
        obtain ⟨v', w', hr, hb, ho⟩ := run_append_full rowMType 105 wc w.heap.size _ encM none [] (Sl.nil_ wc _ 8 encM 0 none) _ [x] ha (by simp) encM_len encM_one (by simp; unfold maxLen; omega) (by simp)
        obtain ⟨C, c2, rfl⟩ := ho.form
        exact ⟨_, w', exec_append rfl rfl rfl hr, hb, ⟨_, _, rfl⟩, ho.base (by have := hC.bel.size; omega)⟩
      rintro _ ⟨C, c2, rfl⟩
      try simp only [Act.put, List.setIfInBounds_toArray, List.set_cons_zero, List.set_cons_succ]
      repeat (first
        | (refine calm_skip (by rfl) ?_; try simp only [Act.put, List.setIfInBounds_toArray, List.set_cons_zero, List.set_cons_succ])
        | (refine calm_plain (by rfl) (by rfl) ?_; apply Exists.intro; refine ⟨fun wc hC hD => ?_, ?_⟩; (focus (clear hD; obtain ⟨c0, c1, c2, c3, c4, c5, c6, c7⟩ := box8 (hC.blk _ List.mem_cons_self); clear hC; go_simp; first | done | with_reducible rfl)); try simp only [Act.put, List.setIfInBounds_toArray, List.set_cons_zero, List.set_cons_succ]))
      refine calm_end ?_
      intro w7 hL7 hF7
      have hO := hF7 6
      simp [upd, noF] at hO
      clear hF7
      replace HL := Lib.hid hL7
      clear hL7
      simp only [List.drop_succ_cons, List.drop_zero]
      have HO := Lib.hid (show w7.ownsRow w.heap.size 91 8 (.slice C 1 c2) 1 ([x].flatMap encM) from by have h := hO; unfold Ow at h; exact h)
      clear hO
      go_wp2_with (at_builtin; refine list_append_sl rowMType _ rfl _ _ rfl w.heap.size (.slice C 1 c2) 1 _ rfl HO.out w.heap.size encM _ [] rfl (Sl.nil_ _ _ 8 encM _ _) encM_len encM_one ?c3 ?c4 ?c5 ?_)
      case c3 => simp; unfold maxLen; omega
      case c4 => simp
      case c5 => have := HL.out.bel.size; omega
      intro v3 w3 g3
      obtain ⟨A', c', rfl⟩ := g3.form
      have HG := Lib.hid g3.1
      have HB3 := Lib.hid (HL.out.bel.trans (g3.below (fun g hgg => (World.ownsRow.lt HO.out g hgg).1) HL.out.bel.size))
      clear g3
      go_wp2
      go_ret
      refine ⟨_, rfl, HB3.out, fun h => absurd h HE.out, fun _ => ?_⟩
      rw [HNEW.out HE.out]
      have h := HG.out
      simpa [Ow] using h
    · simp only [Value.slice.injEq, true_and] at hA
      obtain ⟨rfl, rfl⟩ := hA
      have hsc : s ≤ c := by omega
      have hlc : l.length ≤ c := hc1
      go_upto_region 4 with fail
      refine wp_region_calm_lg_tail [(5, (fun u => ∃ g, u = .slice (some ⟨g, 0, none⟩) 1 1), fun u W => Sl W W.heap.size 8 encM u [x]), (6, (fun u => ∃ C c, u = .slice C (s + 1) c), fun u W => Ow W w.heap.size 91 8 encM u (l.take s ++ [x]))] 10 (by kernel_rfl) (by kernel_rfl) (by intro p hp v; simp only [List.mem_cons, List.not_mem_nil, or_false] at hp; rcases hp with rfl | rfl <;> first | exact fun _ _ hb h => Ow.lift h hb | exact fun _ _ hb h => (h.below hb).more hb.size) HL.out ?_
      repeat (first
        | (refine calm_skip (by rfl) ?_; try simp only [Act.put, List.setIfInBounds_toArray, List.set_cons_zero, List.set_cons_succ])
        | (refine calm_plain (by rfl) (by rfl) ?_; apply Exists.intro; refine ⟨fun wc hC hD => ?_, ?_⟩; (focus (clear hD; obtain ⟨c0, c1, c2, c3, c4, c5, c6, c7⟩ := box8 (hC.blk _ List.mem_cons_self); clear hC; go_simp; first | done | with_reducible rfl)); try simp only [Act.put, List.setIfInBounds_toArray, List.set_cons_zero, List.set_cons_succ]))
      refine calm_make _ _ (by rfl) (by rfl) ?_ ?_
      focus
        intro wc hC hD
        have hz := block_lt (hC.blk _ List.mem_cons_self)
        clear hD
        exact ⟨.slice (some ⟨wc.heap.size, 0, none⟩) 1 1, wc.alloc (.cells #[.int .i64 x.i.c, .int .i64 x.i.k, .int .i64 x.l.c, .int .i64 x.l.k, .int .i64 x.r.c, .int .i64 x.r.k, .string x.t, .bool x.g] 91), (by clear hC; go_simp), (Below.refl _ _).alloc (Nat.le_refl _) _, ⟨_, rfl⟩, (sl_single (heap_alloc_new _ _) 8 encM x rfl).more (by simp)⟩
      rintro _ ⟨g, rfl⟩
      try simp only [Act.put, List.setIfInBounds_toArray, List.set_cons_zero, List.set_cons_succ]
      repeat (first
        | (refine calm_skip (by rfl) ?_; try simp only [Act.put, List.setIfInBounds_toArray, List.set_cons_zero, List.set_cons_succ])
        | (refine calm_plain (by rfl) (by rfl) ?_; apply Exists.intro; refine ⟨fun wc hC hD => ?_, ?_⟩; (focus (clear hD; obtain ⟨c0, c1, c2, c3, c4, c5, c6, c7⟩ := box8 (hC.blk _ List.mem_cons_self); clear hC; go_simp; first | done | with_reducible rfl)); try simp only [Act.put, List.setIfInBounds_toArray, List.set_cons_zero, List.set_cons_succ]))
      refine calm_make _ _ (by rfl) (by rfl) ?_ ?_
      focus
        intro wc hC hD
        have hz := block_lt (hC.blk _ List.mem_cons_self)
        have ha := Deps.get hD 5 (by kernel_rfl)
        simp [upd, noF] at ha
        clear hD
        obtain ⟨v', w', hr, hb, ho⟩ := run_append_full rowMType 105 wc w.heap.size _ encM _ (l.take s) (by rw [HTL.out]; exact sl_take (HV.out.below hC.bel) s s HSL.out) _ [x] ha (by simp) encM_len encM_one (by rw [HTL.out]; have := HSL.out; simp; unfold maxLen; omega) (by rw [HTL.out]; have := HSL.out; simp; omega)
        rw [HTL.out] at hr
        obtain ⟨C, c2, rfl⟩ := ho.form
        rw [HN1.out] at hr ho
        exact ⟨_, w', exec_append rfl rfl rfl hr, hb, ⟨_, _, rfl⟩, ho.base (by have := hC.bel.size; omega)⟩
      rintro _ ⟨C, c2, rfl⟩
      try simp only [Act.put, List.setIfInBounds_toArray, List.set_cons_zero, List.set_cons_succ]
      repeat (first
        | (refine calm_skip (by rfl) ?_; try simp only [Act.put, List.setIfInBounds_toArray, List.set_cons_zero, List.set_cons_succ])
        | (refine calm_plain (by rfl) (by rfl) ?_; apply Exists.intro; refine ⟨fun wc hC hD => ?_, ?_⟩; (focus (clear hD; obtain ⟨c0, c1, c2, c3, c4, c5, c6, c7⟩ := box8 (hC.blk _ List.mem_cons_self); clear hC; go_simp; first | done | with_reducible rfl)); try simp only [Act.put, List.setIfInBounds_toArray, List.set_cons_zero, List.set_cons_succ]))
      refine calm_end ?_
      intro w7 hL7 hF7
      have hO := hF7 6
      simp [upd, noF] at hO
      clear hF7
      replace HL := Lib.hid hL7
      clear hL7
      simp only [List.drop_succ_cons, List.drop_zero]
      have HO := Lib.hid (show w7.ownsRow w.heap.size 91 8 (.slice C (s + 1) c2) (s + 1) ((l.take s ++ [x]).flatMap encM) from by have h := hO; unfold Ow at h; rw [HN1.out] at h; exact h)
      clear hO
      have HSD := Lib.hid (sl_dropif (HV.out.below HL.out.bel) s (c - s) HSL.out hlc)
      generalize (if c = s then some (⟨gg, 0, none⟩ : Addr) else some ⟨gg, s * 8, none⟩) = Y at HSD ⊢
      go_wp2_with (at_builtin; refine list_append_sl rowMType _ rfl _ _ rfl w.heap.size (.slice C (s + 1) c2) (s + 1) _ rfl HO.out _ encM _ (l.drop s) rfl HSD.out encM_len encM_one ?c3 ?c4 ?c5 ?_)
      case c3 => have := HSL.out; simp; unfold maxLen; omega
      case c4 => have := HSL.out; simp; omega
      case c5 => have := HL.out.bel.size; omega
      intro v3 w3 g3
      obtain ⟨A', c', rfl⟩ := g3.form
      have HG := Lib.hid g3.1
      have HB3 := Lib.hid (HL.out.bel.trans (g3.below (fun g hgg => (World.ownsRow.lt HO.out g hgg).1) HL.out.bel.size))
      clear g3
      go_wp2
      go_ret
      refine ⟨.slice A' (s + 1 + (l.length - s)) c', rfl, HB3.out, fun h => absurd h HE.out, fun _ => ?_⟩
      rw [HNEW.out HE.out]
      have e : l.take s ++ x :: l.drop s = (l.take s ++ [x]) ++ l.drop s := by simp
      rw [e]
      unfold Ow
      rw [List.length_append, HN1.out, List.length_drop, List.flatMap_append]
      have h := HG.out
      simpa using h

set_option maxRecDepth 100000 in
set_option maxHeartbeats 8000000 in
theorem impl_withI (v : Value) (l : List Nm) (x : Nm) (base : Nat) (w : World) (hw : Ow w base 89 2 encN v l) (hl : l.length ≤ 1048576) (hr : Rise nmI l) :
    Calls Try.prog 66 #[v, vN x] w (WithR 89 2 encN nmI v l x w) := by
  have hv := hw.sl encN_len
  have HW := Lib.hid hw; clear hw
  have HF := Lib.hid (fun W (hb : Below w.heap.size w W) => impl_findI v l (nmI x) W ((hv.below hb).more hb.size) (by omega) hr)
  obtain ⟨A, c, rfl⟩ := hv.form
  have HV := Lib.hid hv; clear hv
  have hs := spot_le nmI l (nmI x)
  have HB := Lib.hid (thereB_iff nmI l (nmI x))
  obtain ⟨s, hs2⟩ : ∃ s, s = spot nmI l (nmI x) := ⟨_, rfl⟩
  obtain ⟨b, hb2⟩ : ∃ b, b = thereB nmI l (nmI x) := ⟨_, rfl⟩
  have HS := Lib.hid hs2
  have HNEW := Lib.hid (fun h => with_new (f := nmI) (l := l) (x := x) h)
  rw [← hs2] at HF hs HNEW
  rw [← hb2] at HF HB
  clear hs2 hb2
  have HSL := Lib.hid hs
  have HTL := Lib.hid (show (l.take s).length = s by rw [List.length_take]; omega)
  have HN1 := Lib.hid (show (l.take s ++ [x]).length = s + 1 by rw [List.length_append, List.length_take]; simp; omega)
  have HL := Lib.hid ((Lg.start w).alloc (.cells #[.int .i64 x.c, .int .i64 x.k] 89))
  go_enter Try.func66, Try.ntmps66
  go_wp2_with fail
  refine (impl_nmI x _).mono ?_
  rintro e w1 ⟨rfl, hb⟩
  replace HL := Lib.hid (HL.out.lift hb); clear hb
  go_wp2_with fail
  refine (HF.out _ HL.out.bel).mono ?_
  rintro e w2 ⟨rfl, hb⟩
  replace HL := Lib.hid (HL.out.lift hb); clear hb
  cases b with
  | true =>
    have HE := Lib.hid (HB.out.1 rfl)
    go_wp2
    go_ret
    exact ⟨_, rfl, HL.out.bel, fun _ => rfl, fun h => absurd HE.out h⟩
  | false =>
    have HE := Lib.hid (show ¬ ThereP nmI l (nmI x) from fun h => by have := HB.out.2 h; cases this)
    rcases HW.out.2 with ⟨hA, h0⟩ | ⟨gg, cap, cur, hA, -, -, hc1, hc2, -⟩
    · simp only [Value.slice.injEq] at hA
      obtain ⟨rfl, _, rfl⟩ := hA
      obtain rfl : l = [] := List.length_eq_zero_iff.1 h0
      obtain rfl : s = 0 := by have := HSL.out; simp at this; exact this
      go_upto_region 4 with fail
      refine wp_region_calm_lg_tail [(5, (fun u => ∃ g, u = .slice (some ⟨g, 0, none⟩) 1 1), fun u W => Sl W W.heap.size 2 encN u [x]), (6, (fun u => ∃ C c, u = .slice C 1 c), fun u W => Ow W w.heap.size 89 2 encN u [x])] 10 (by kernel_rfl) (by kernel_rfl) (by intro p hp v; simp only [List.mem_cons, List.not_mem_nil, or_false] at hp; rcases hp with rfl | rfl <;> first | exact fun _ _ hb h => Ow.lift h hb | exact fun _ _ hb h => (h.below hb).more hb.size) HL.out ?_
      repeat (first
        | (refine calm_skip (by rfl) ?_; try simp only [Act.put, List.setIfInBounds_toArray, List.set_cons_zero, List.set_cons_succ])
        | (refine calm_plain (by rfl) (by rfl) ?_; apply Exists.intro; refine ⟨fun wc hC hD => ?_, ?_⟩; (focus (clear hD; obtain ⟨c0, c1⟩ := box2 (hC.blk _ List.mem_cons_self); clear hC; go_simp; first | done | with_reducible rfl)); try simp only [Act.put, List.setIfInBounds_toArray, List.set_cons_zero, List.set_cons_succ]))
      refine calm_make _ _ (by rfl) (by rfl) ?_ ?_
      focus
        intro wc hC hD
        have hz := block_lt (hC.blk _ List.mem_cons_self)
        clear hD
        exact ⟨.slice (some ⟨wc.heap.size, 0, none⟩) 1 1, wc.alloc (.cells #[.int .i64 x.c, .int .i64 x.k] 89), (by clear hC; go_simp), (Below.refl _ _).alloc (Nat.le_refl _) _, ⟨_, rfl⟩, (sl_single (heap_alloc_new _ _) 2 encN x rfl).more (by simp)⟩
      rintro _ ⟨g, rfl⟩
      try simp only [Act.put, List.setIfInBounds_toArray, List.set_cons_zero, List.set_cons_succ]
      repeat (first
        | (refine calm_skip (by rfl) ?_; try simp only [Act.put, List.setIfInBounds_toArray, List.set_cons_zero, List.set_cons_succ])
        | (refine calm_plain (by rfl) (by rfl) ?_; apply Exists.intro; refine ⟨fun wc hC hD => ?_, ?_⟩; (focus (clear hD; obtain ⟨c0, c1⟩ := box2 (hC.blk _ List.mem_cons_self); clear hC; go_simp; first | done | with_reducible rfl)); try simp only [Act.put, List.setIfInBounds_toArray, List.set_cons_zero, List.set_cons_succ]))
      refine calm_make _ _ (by rfl) (by rfl) ?_ ?_
      focus
        intro wc hC hD
        have hz := block_lt (hC.blk _ List.mem_cons_self)
        have ha := Deps.get hD 5 (by kernel_rfl)
        simp [upd, noF] at ha
        clear hD
        obtain ⟨v', w', hr, hb, ho⟩ := run_append_full rowIType 106 wc w.heap.size _ encN none [] (Sl.nil_ wc _ 2 encN 0 none) _ [x] ha (by simp) encN_len encN_one (by simp; unfold maxLen; omega) (by simp)
        obtain ⟨C, c2, rfl⟩ := ho.form
        exact ⟨_, w', exec_append rfl rfl rfl hr, hb, ⟨_, _, rfl⟩, ho.base (by have := hC.bel.size; omega)⟩
      rintro _ ⟨C, c2, rfl⟩
      try simp only [Act.put, List.setIfInBounds_toArray, List.set_cons_zero, List.set_cons_succ]
      repeat (first
        | (refine calm_skip (by rfl) ?_; try simp only [Act.put, List.setIfInBounds_toArray, List.set_cons_zero, List.set_cons_succ])
        | (refine calm_plain (by rfl) (by rfl) ?_; apply Exists.intro; refine ⟨fun wc hC hD => ?_, ?_⟩; (focus (clear hD; obtain ⟨c0, c1⟩ := box2 (hC.blk _ List.mem_cons_self); clear hC; go_simp; first | done | with_reducible rfl)); try simp only [Act.put, List.setIfInBounds_toArray, List.set_cons_zero, List.set_cons_succ]))
      refine calm_end ?_
      intro w7 hL7 hF7
      have hO := hF7 6
      simp [upd, noF] at hO
      clear hF7
      replace HL := Lib.hid hL7
      clear hL7
      simp only [List.drop_succ_cons, List.drop_zero]
      have HO := Lib.hid (show w7.ownsRow w.heap.size 89 2 (.slice C 1 c2) 1 ([x].flatMap encN) from by have h := hO; unfold Ow at h; exact h)
      clear hO
      go_wp2_with (at_builtin; refine list_append_sl rowIType _ rfl _ _ rfl w.heap.size (.slice C 1 c2) 1 _ rfl HO.out w.heap.size encN _ [] rfl (Sl.nil_ _ _ 2 encN _ _) encN_len encN_one ?c3 ?c4 ?c5 ?_)
      case c3 => simp; unfold maxLen; omega
      case c4 => simp
      case c5 => have := HL.out.bel.size; omega
      intro v3 w3 g3
      obtain ⟨A', c', rfl⟩ := g3.form
      have HG := Lib.hid g3.1
      have HB3 := Lib.hid (HL.out.bel.trans (g3.below (fun g hgg => (World.ownsRow.lt HO.out g hgg).1) HL.out.bel.size))
      clear g3
      go_wp2
      go_ret
      refine ⟨_, rfl, HB3.out, fun h => absurd h HE.out, fun _ => ?_⟩
      rw [HNEW.out HE.out]
      have h := HG.out
      simpa [Ow] using h
    · simp only [Value.slice.injEq, true_and] at hA
      obtain ⟨rfl, rfl⟩ := hA
      have hsc : s ≤ c := by omega
      have hlc : l.length ≤ c := hc1
      go_upto_region 4 with fail
      refine wp_region_calm_lg_tail [(5, (fun u => ∃ g, u = .slice (some ⟨g, 0, none⟩) 1 1), fun u W => Sl W W.heap.size 2 encN u [x]), (6, (fun u => ∃ C c, u = .slice C (s + 1) c), fun u W => Ow W w.heap.size 89 2 encN u (l.take s ++ [x]))] 10 (by kernel_rfl) (by kernel_rfl) (by intro p hp v; simp only [List.mem_cons, List.not_mem_nil, or_false] at hp; rcases hp with rfl | rfl <;> first | exact fun _ _ hb h => Ow.lift h hb | exact fun _ _ hb h => (h.below hb).more hb.size) HL.out ?_
      repeat (first
        | (refine calm_skip (by rfl) ?_; try simp only [Act.put, List.setIfInBounds_toArray, List.set_cons_zero, List.set_cons_succ])
        | (refine calm_plain (by rfl) (by rfl) ?_; apply Exists.intro; refine ⟨fun wc hC hD => ?_, ?_⟩; (focus (clear hD; obtain ⟨c0, c1⟩ := box2 (hC.blk _ List.mem_cons_self); clear hC; go_simp; first | done | with_reducible rfl)); try simp only [Act.put, List.setIfInBounds_toArray, List.set_cons_zero, List.set_cons_succ]))
      refine calm_make _ _ (by rfl) (by rfl) ?_ ?_
      focus
        intro wc hC hD
        have hz := block_lt (hC.blk _ List.mem_cons_self)
        clear hD
        exact ⟨.slice (some ⟨wc.heap.size, 0, none⟩) 1 1, wc.alloc (.cells #[.int .i64 x.c, .int .i64 x.k] 89), (by clear hC; go_simp), (Below.refl _ _).alloc (Nat.le_refl _) _, ⟨_, rfl⟩, (sl_single (heap_alloc_new _ _) 2 encN x rfl).more (by simp)⟩
      rintro _ ⟨g, rfl⟩
      try simp only [Act.put, List.setIfInBounds_toArray, List.set_cons_zero, List.set_cons_succ]
      repeat (first
        | (refine calm_skip (by rfl) ?_; try simp only [Act.put, List.setIfInBounds_toArray, List.set_cons_zero, List.set_cons_succ])
        | (refine calm_plain (by rfl) (by rfl) ?_; apply Exists.intro; refine ⟨fun wc hC hD => ?_, ?_⟩; (focus (clear hD; obtain ⟨c0, c1⟩ := box2 (hC.blk _ List.mem_cons_self); clear hC; go_simp; first | done | with_reducible rfl)); try simp only [Act.put, List.setIfInBounds_toArray, List.set_cons_zero, List.set_cons_succ]))
      refine calm_make _ _ (by rfl) (by rfl) ?_ ?_
      focus
        intro wc hC hD
        have hz := block_lt (hC.blk _ List.mem_cons_self)
        have ha := Deps.get hD 5 (by kernel_rfl)
        simp [upd, noF] at ha
        clear hD
        obtain ⟨v', w', hr, hb, ho⟩ := run_append_full rowIType 106 wc w.heap.size _ encN _ (l.take s) (by rw [HTL.out]; exact sl_take (HV.out.below hC.bel) s s HSL.out) _ [x] ha (by simp) encN_len encN_one (by rw [HTL.out]; have := HSL.out; simp; unfold maxLen; omega) (by rw [HTL.out]; have := HSL.out; simp; omega)
        rw [HTL.out] at hr
        obtain ⟨C, c2, rfl⟩ := ho.form
        rw [HN1.out] at hr ho
        exact ⟨_, w', exec_append rfl rfl rfl hr, hb, ⟨_, _, rfl⟩, ho.base (by have := hC.bel.size; omega)⟩
      rintro _ ⟨C, c2, rfl⟩
      try simp only [Act.put, List.setIfInBounds_toArray, List.set_cons_zero, List.set_cons_succ]
      repeat (first
        | (refine calm_skip (by rfl) ?_; try simp only [Act.put, List.setIfInBounds_toArray, List.set_cons_zero, List.set_cons_succ])
        | (refine calm_plain (by rfl) (by rfl) ?_; apply Exists.intro; refine ⟨fun wc hC hD => ?_, ?_⟩; (focus (clear hD; obtain ⟨c0, c1⟩ := box2 (hC.blk _ List.mem_cons_self); clear hC; go_simp; first | done | with_reducible rfl)); try simp only [Act.put, List.setIfInBounds_toArray, List.set_cons_zero, List.set_cons_succ]))
      refine calm_end ?_
      intro w7 hL7 hF7
      have hO := hF7 6
      simp [upd, noF] at hO
      clear hF7
      replace HL := Lib.hid hL7
      clear hL7
      simp only [List.drop_succ_cons, List.drop_zero]
      have HO := Lib.hid (show w7.ownsRow w.heap.size 89 2 (.slice C (s + 1) c2) (s + 1) ((l.take s ++ [x]).flatMap encN) from by have h := hO; unfold Ow at h; rw [HN1.out] at h; exact h)
      clear hO
      have HSD := Lib.hid (sl_dropif (HV.out.below HL.out.bel) s (c - s) HSL.out hlc)
      generalize (if c = s then some (⟨gg, 0, none⟩ : Addr) else some ⟨gg, s * 2, none⟩) = Y at HSD ⊢
      go_wp2_with (at_builtin; refine list_append_sl rowIType _ rfl _ _ rfl w.heap.size (.slice C (s + 1) c2) (s + 1) _ rfl HO.out _ encN _ (l.drop s) rfl HSD.out encN_len encN_one ?c3 ?c4 ?c5 ?_)
      case c3 => have := HSL.out; simp; unfold maxLen; omega
      case c4 => have := HSL.out; simp; omega
      case c5 => have := HL.out.bel.size; omega
      intro v3 w3 g3
      obtain ⟨A', c', rfl⟩ := g3.form
      have HG := Lib.hid g3.1
      have HB3 := Lib.hid (HL.out.bel.trans (g3.below (fun g hgg => (World.ownsRow.lt HO.out g hgg).1) HL.out.bel.size))
      clear g3
      go_wp2
      go_ret
      refine ⟨.slice A' (s + 1 + (l.length - s)) c', rfl, HB3.out, fun h => absurd h HE.out, fun _ => ?_⟩
      rw [HNEW.out HE.out]
      have e : l.take s ++ x :: l.drop s = (l.take s ++ [x]) ++ l.drop s := by simp
      rw [e]
      unfold Ow
      rw [List.length_append, HN1.out, List.length_drop, List.flatMap_append]
      have h := HG.out
      simpa using h

end Go.Proofs.Ytaggmcdfggmlhaa
