/-
  Contracts of the copies of a doc: the model's, the program's.
-/
import Derived.Test.YtaggmcdfggmlhaaFresh
import Derived.Test.YtaggmcdfggmlhaaEqDoc
import Derived.Test.YtaggmcdfggmlhaaFitD
import Derived.Test.YtaggmcdfggmlhaaCloneD
import Derived.Deep.DeepMust
namespace Go.Proofs.Ytaggmcdfggmlhaa
set_option linter.unusedSimpArgs false
set_option linter.unusedVariables false
open Go.ChangeShapes Go.WideShapes Go.ChangeAt Go.RowKit

theorem itemType : SlType Try.prog 26 91 8 72 := sl_type Try.underlying26 infoItem rfl (by omega)
theorem idType : SlType Try.prog 27 89 2 16 := sl_type Try.underlying27 infoId rfl (by omega)
theorem own_aside {w : World} {base e k b j n : Nat} {v : Value} {xs : List Value} (h : w.ownsRow base e k v n xs) (hp : ∀ g, v.ownBlock = some g → b ≠ g) (u : Value) : (w.setCell ⟨b, j, none⟩ u).ownsRow base e k v n xs := by
  refine ⟨h.1, ?_⟩
  rcases h.2 with hn | ⟨g, cap, cur, rfl, hb, hgg, rest⟩
  · exact .inl hn
  · exact .inr ⟨g, cap, cur, rfl, hb, by rw [Below.heap_setCell _ _ _ _ (fun e => hp g rfl e.symm)]; exact hgg, rest⟩
theorem res_docC {W : World} {b : Nat} {cs : Array Value} {a0 a1 a2 : Value} (f : Func) (hf : f.results = #[.cell 2 29]) (tm : Array Value) (ht : tm[2]? = some (.pointer (some ⟨b, 0, none⟩))) (hg : W.heap[b]? = some (.cells cs 29 (0, 0))) (he : cs = #[a0, a1, a2]) :
    (results f tm).run Try.prog W = .ok (.agg #[a0, a1, a2]) W := by
  subst he
  obtain ⟨c0, c1, c2⟩ := box3 hg
  simp [results, hf, go_sem, ht, c0, c1, c2]

set_option maxRecDepth 100000 in
set_option maxHeartbeats 8000000 in
theorem spec_copy (v : Value) (d : Dc) (w : World) (hv : DcAt w w.heap.size v d) (h1 : d.X.length ≤ 1048576) (h2 : d.P.length ≤ 1048576) (h3 : d.H.length ≤ 1048576) :
    Calls Try.prog 145 #[v] w (OwnsDc w d) := by
  obtain ⟨vx, vp, vh, rfl, hx, hp, hh⟩ := hv
  obtain ⟨A1, k1, rfl⟩ := hx.form; obtain ⟨A2, k2, rfl⟩ := hp.form; obtain ⟨A3, k3, rfl⟩ := hh.form
  have HVX := Lib.hid hx; have HVP := Lib.hid hp; have HVH := Lib.hid hh
  clear hx hp hh
  have hL := ((Lg.start w).alloc (.cells #[.slice A1 d.X.length k1, .slice A2 d.P.length k2, .slice A3 d.H.length k3] 29)).alloc (.cells #[.slice none 0 0, .slice none 0 0, .slice none 0 0] 29)
  simp only [World.size_alloc] at hL
  have HL := Lib.hid hL; clear hL
  go_enter Try.func145, Try.ntmps145
  have HLEN := Lib.hid (show d.X.length ≤ 1048576 ∧ d.P.length ≤ 1048576 ∧ d.H.length ≤ 1048576 from ⟨h1, h2, h3⟩)
  go_upto_region 1 with fail
  refine wp_region_calm_lg_tail [(0, (fun u => ∃ g, u = .slice (some ⟨g, 0, none⟩) 0 0), fun u W => Bare W (w.heap.size + 1 + 1) 91 u), (3, (fun u => ∃ C c, u = .slice C d.X.length c), fun u W => Ow W (w.heap.size + 1 + 1) 91 8 encM u d.X), (4, (fun u => ∃ g, u = .slice (some ⟨g, 0, none⟩) 0 0), fun u W => Bare W (w.heap.size + 1 + 1) 91 u), (7, (fun u => ∃ C c, u = .slice C d.P.length c), fun u W => Ow W (w.heap.size + 1 + 1) 91 8 encM u d.P), (8, (fun u => ∃ g, u = .slice (some ⟨g, 0, none⟩) 0 0), fun u W => Bare W (w.heap.size + 1 + 1) 89 u), (11, (fun u => ∃ C c, u = .slice C d.H.length c), fun u W => Ow W (w.heap.size + 1 + 1) 89 2 encN u d.H)] 12 (by kernel_rfl) (by kernel_rfl) (by intro x hx v; simp only [List.mem_cons, List.not_mem_nil, or_false] at hx; rcases hx with rfl | rfl | rfl | rfl | rfl | rfl <;> first | exact fun _ _ hb h => Bare.lift h hb | exact fun _ _ hb h => Ow.lift h hb) HL.out ?_
  refine calm_make _ _ (by rfl) (by rfl) ?_ ?_
  focus
    intro wc hC hD
    have hz := block_lt (hC.blk _ List.mem_cons_self)
    clear hD
    exact ⟨.slice (some ⟨wc.heap.size, 0, none⟩) 0 0, wc.alloc (.cells #[] 91), (by clear hC; go_simp), (Below.refl _ _).alloc (Nat.le_refl _) _, ⟨_, rfl⟩, .inr ⟨_, rfl, (by omega), heap_alloc_new _ _⟩⟩
  rintro _ ⟨g, rfl⟩
  try simp only [Act.put, List.setIfInBounds_toArray, List.set_cons_zero, List.set_cons_succ]
  repeat (first
    | (refine calm_skip (by rfl) ?_; try simp only [Act.put, List.setIfInBounds_toArray, List.set_cons_zero, List.set_cons_succ])
    | (refine calm_plain (by rfl) (by rfl) ?_; apply Exists.intro; refine ⟨fun wc hC hD => ?_, ?_⟩; (focus (clear hD; obtain ⟨y0, y1, y2⟩ := box3 (hC.blk _ List.mem_cons_self); obtain ⟨x0, x1, x2⟩ := box3 (hC.blk _ (List.mem_cons_of_mem _ List.mem_cons_self)); clear hC; go_simp; first | done | with_reducible rfl)); try simp only [Act.put, List.setIfInBounds_toArray, List.set_cons_zero, List.set_cons_succ]))
  refine calm_make _ _ (by rfl) (by rfl) ?_ ?_
  focus
    intro wc hC hD
    have hz := block_lt (hC.blk _ List.mem_cons_self)
    have ha := Deps.get hD 0 (by kernel_rfl)
    simp [upd, noF] at ha
    clear hD
    obtain ⟨v', w', hr, hb, ho⟩ := run_append_bare itemType 26 wc (w.heap.size + 1 + 1) _ (ha) w.heap.size encM _ d.X ((HVX.out.below hC.bel)) encM_len encM_one (by have := HLEN.out; unfold maxLen; omega) (by have := HLEN.out; omega) (by omega)
    obtain ⟨C, c, rfl⟩ := ho.form
    exact ⟨_, w', exec_append rfl rfl rfl hr, hb, ⟨_, _, rfl⟩, ho⟩
  rintro _ ⟨C1, l1, rfl⟩
  try simp only [Act.put, List.setIfInBounds_toArray, List.set_cons_zero, List.set_cons_succ]
  repeat (first
    | (refine calm_skip (by rfl) ?_; try simp only [Act.put, List.setIfInBounds_toArray, List.set_cons_zero, List.set_cons_succ])
    | (refine calm_plain (by rfl) (by rfl) ?_; apply Exists.intro; refine ⟨fun wc hC hD => ?_, ?_⟩; (focus (clear hD; obtain ⟨y0, y1, y2⟩ := box3 (hC.blk _ List.mem_cons_self); obtain ⟨x0, x1, x2⟩ := box3 (hC.blk _ (List.mem_cons_of_mem _ List.mem_cons_self)); clear hC; go_simp; first | done | with_reducible rfl)); try simp only [Act.put, List.setIfInBounds_toArray, List.set_cons_zero, List.set_cons_succ]))
  refine calm_make _ _ (by rfl) (by rfl) ?_ ?_
  focus
    intro wc hC hD
    have hz := block_lt (hC.blk _ List.mem_cons_self)
    clear hD
    exact ⟨.slice (some ⟨wc.heap.size, 0, none⟩) 0 0, wc.alloc (.cells #[] 91), (by clear hC; go_simp), (Below.refl _ _).alloc (Nat.le_refl _) _, ⟨_, rfl⟩, .inr ⟨_, rfl, (by omega), heap_alloc_new _ _⟩⟩
  rintro _ ⟨g, rfl⟩
  try simp only [Act.put, List.setIfInBounds_toArray, List.set_cons_zero, List.set_cons_succ]
  repeat (first
    | (refine calm_skip (by rfl) ?_; try simp only [Act.put, List.setIfInBounds_toArray, List.set_cons_zero, List.set_cons_succ])
    | (refine calm_plain (by rfl) (by rfl) ?_; apply Exists.intro; refine ⟨fun wc hC hD => ?_, ?_⟩; (focus (clear hD; obtain ⟨y0, y1, y2⟩ := box3 (hC.blk _ List.mem_cons_self); obtain ⟨x0, x1, x2⟩ := box3 (hC.blk _ (List.mem_cons_of_mem _ List.mem_cons_self)); clear hC; go_simp; first | done | with_reducible rfl)); try simp only [Act.put, List.setIfInBounds_toArray, List.set_cons_zero, List.set_cons_succ]))
  refine calm_make _ _ (by rfl) (by rfl) ?_ ?_
  focus
    intro wc hC hD
    have hz := block_lt (hC.blk _ List.mem_cons_self)
    have ha := Deps.get hD 4 (by kernel_rfl)
    simp [upd, noF] at ha
    clear hD
    obtain ⟨v', w', hr, hb, ho⟩ := run_append_bare itemType 26 wc (w.heap.size + 1 + 1) _ (ha) w.heap.size encM _ d.P ((HVP.out.below hC.bel)) encM_len encM_one (by have := HLEN.out; unfold maxLen; omega) (by have := HLEN.out; omega) (by omega)
    obtain ⟨C, c, rfl⟩ := ho.form
    exact ⟨_, w', exec_append rfl rfl rfl hr, hb, ⟨_, _, rfl⟩, ho⟩
  rintro _ ⟨C2, l2, rfl⟩
  try simp only [Act.put, List.setIfInBounds_toArray, List.set_cons_zero, List.set_cons_succ]
  repeat (first
    | (refine calm_skip (by rfl) ?_; try simp only [Act.put, List.setIfInBounds_toArray, List.set_cons_zero, List.set_cons_succ])
    | (refine calm_plain (by rfl) (by rfl) ?_; apply Exists.intro; refine ⟨fun wc hC hD => ?_, ?_⟩; (focus (clear hD; obtain ⟨y0, y1, y2⟩ := box3 (hC.blk _ List.mem_cons_self); obtain ⟨x0, x1, x2⟩ := box3 (hC.blk _ (List.mem_cons_of_mem _ List.mem_cons_self)); clear hC; go_simp; first | done | with_reducible rfl)); try simp only [Act.put, List.setIfInBounds_toArray, List.set_cons_zero, List.set_cons_succ]))
  refine calm_make _ _ (by rfl) (by rfl) ?_ ?_
  focus
    intro wc hC hD
    have hz := block_lt (hC.blk _ List.mem_cons_self)
    clear hD
    exact ⟨.slice (some ⟨wc.heap.size, 0, none⟩) 0 0, wc.alloc (.cells #[] 89), (by clear hC; go_simp), (Below.refl _ _).alloc (Nat.le_refl _) _, ⟨_, rfl⟩, .inr ⟨_, rfl, (by omega), heap_alloc_new _ _⟩⟩
  rintro _ ⟨g, rfl⟩
  try simp only [Act.put, List.setIfInBounds_toArray, List.set_cons_zero, List.set_cons_succ]
  repeat (first
    | (refine calm_skip (by rfl) ?_; try simp only [Act.put, List.setIfInBounds_toArray, List.set_cons_zero, List.set_cons_succ])
    | (refine calm_plain (by rfl) (by rfl) ?_; apply Exists.intro; refine ⟨fun wc hC hD => ?_, ?_⟩; (focus (clear hD; obtain ⟨y0, y1, y2⟩ := box3 (hC.blk _ List.mem_cons_self); obtain ⟨x0, x1, x2⟩ := box3 (hC.blk _ (List.mem_cons_of_mem _ List.mem_cons_self)); clear hC; go_simp; first | done | with_reducible rfl)); try simp only [Act.put, List.setIfInBounds_toArray, List.set_cons_zero, List.set_cons_succ]))
  refine calm_make _ _ (by rfl) (by rfl) ?_ ?_
  focus
    intro wc hC hD
    have hz := block_lt (hC.blk _ List.mem_cons_self)
    have ha := Deps.get hD 8 (by kernel_rfl)
    simp [upd, noF] at ha
    clear hD
    obtain ⟨v', w', hr, hb, ho⟩ := run_append_bare idType 27 wc (w.heap.size + 1 + 1) _ (ha) w.heap.size encN _ d.H ((HVH.out.below hC.bel)) encN_len encN_one (by have := HLEN.out; unfold maxLen; omega) (by have := HLEN.out; omega) (by omega)
    obtain ⟨C, c, rfl⟩ := ho.form
    exact ⟨_, w', exec_append rfl rfl rfl hr, hb, ⟨_, _, rfl⟩, ho⟩
  rintro _ ⟨C3, l3, rfl⟩
  try simp only [Act.put, List.setIfInBounds_toArray, List.set_cons_zero, List.set_cons_succ]
  repeat (first
    | (refine calm_skip (by rfl) ?_; try simp only [Act.put, List.setIfInBounds_toArray, List.set_cons_zero, List.set_cons_succ])
    | (refine calm_plain (by rfl) (by rfl) ?_; apply Exists.intro; refine ⟨fun wc hC hD => ?_, ?_⟩; (focus (clear hD; obtain ⟨y0, y1, y2⟩ := box3 (hC.blk _ List.mem_cons_self); obtain ⟨x0, x1, x2⟩ := box3 (hC.blk _ (List.mem_cons_of_mem _ List.mem_cons_self)); clear hC; go_simp; first | done | with_reducible rfl)); try simp only [Act.put, List.setIfInBounds_toArray, List.set_cons_zero, List.set_cons_succ]))
  refine calm_end ?_
  intro w7 hL7 hF7
  have hX := hF7 3
  have hP := hF7 7
  have hH := hF7 11
  simp [upd, noF] at hX hP hH
  have HX := Lib.hid hX; have HP := Lib.hid hP; have HH := Lib.hid hH
  clear hF7 hX hP hH
  replace HL := Lib.hid hL7
  clear hL7
  simp only [List.drop_succ_cons, List.drop_zero]
  have HBX := Lib.hid (HL.out.blk _ List.mem_cons_self)
  have hlt := block_lt HBX.out
  obtain ⟨y0, y1, y2⟩ := box3 HBX.out
  have f1 := box_any HBX.out
  go_wp2
  refine bodyPost_ret (v := .agg #[.slice C1 d.X.length l1, .slice C2 d.P.length l2, .slice C3 d.H.length l3]) ?_ rfl ⟨_, rfl, ⟨_, _, _, rfl, ?_, ?_, ?_⟩, ?_⟩
  · apply res_docC (b := w.heap.size + 1) _ (by kernel_rfl)
    · rfl
    · repeat (first | with_reducible apply block_set | (with_reducible refine set_there ?_ _ (by omega)) | with_reducible exact HBX.out)
    · simp only [List.setIfInBounds_toArray, List.set_cons_zero, List.set_cons_succ]
  case refine_5 =>
    refine HL.out.bel.trans ?_
    (repeat (first | with_reducible refine bset ?_ _ (by omega) | with_reducible refine ball ?_ _ (by first | exact Nat.le_refl _ | (simp only [World.size_alloc, World.size_setCell]; omega)) | with_reducible exact Below.refl _ _ | with_reducible refine Below.drew ?_))
  all_goals
    refine Ow.base (base := w.heap.size + 1 + 1) ?_ (by omega)
    repeat (first | with_reducible refine ofar ?_ _ (by omega) | with_reducible exact HX.out | with_reducible exact HP.out | with_reducible exact HH.out)

set_option maxRecDepth 100000 in
set_option maxHeartbeats 4000000 in
theorem impl_itemsAnew (v : Value) (l : List Im) (w : World) (hv : Sl w w.heap.size 8 encM v l) (hl : l.length ≤ 1048576) (hs : ∀ x ∈ l, x.t.size ≤ 281474976710656) :
    Calls Try.prog 64 #[v] w (Owns w 91 8 encM l) := by
  obtain ⟨A0, c0, rfl⟩ := hv.form
  have HV := Lib.hid hv; have HSS := Lib.hid hs; clear hv hs
  go_enter Try.func64, Try.ntmps64
  go_wp2
  go_loopw [3, 8] (fun b i wr => ∃ k : Nat, k ≤ l.length ∧ i = .int .i64 k ∧ (∃ A c, b = .slice A k c) ∧ wr.ownsRow w.heap.size 91 8 b k ((l.take k).flatMap encM) ∧ Below w.heap.size w wr) (fun _ i _ => l.length - (intOf i).toNat)
  case atStart => exact ⟨0, Nat.zero_le _, rfl, ⟨_, _, rfl⟩, World.ownsRow_nil _ _ _ _, Below.refl _ _⟩
  case round =>
    obtain ⟨k, hk, rfl, ⟨A, c, rfl⟩, ho, hb⟩ := hrel
    have HO := Lib.hid ho; have HB := Lib.hid hb
    clear ho hb
    by_cases hlt : k < l.length
    · obtain ⟨ad, c', e', _, q0, q1, q2, q3, q4, q5, q6, q7⟩ := (HV.out.below HB.out).item k hlt
      simp only [Value.slice.injEq, true_and] at e'
      obtain ⟨rfl, rfl⟩ := e'
      have hsz := HSS.out _ (getElem_mem' l k hlt)
      obtain ⟨x, hx⟩ : ∃ x, x = l[k] := ⟨_, rfl⟩
      rw [← hx] at q0 q1 q2 q3 q4 q5 q6 q7 hsz
      have HX := Lib.hid hx; clear hx
      have HC := Lib.hid (fun W => strings_clone x.t W hsz); clear hsz
      have HO1 := Lib.hid (World.ownsRow.alloc HO.out (.cells #[.int .i64 x.i.c, .int .i64 x.i.k, .int .i64 x.l.c, .int .i64 x.l.k, .int .i64 x.r.c, .int .i64 x.r.k, .string x.t, .bool x.g] 91))
      go_wp2_with fail
      refine (HC.out _).mono ?_
      rintro e w1 ⟨rfl, hb1⟩
      have hg1 := box_kept hb1
      have hlt1 := block_lt hg1
      have HO2 := Lib.hid (own_lift HO1.out hb1)
      have HB1 := Lib.hid (show Below w.heap.size w w1 from below_call (ball HB.out _ HB.out.size) (by have := HB.out.size; simp; omega) hb1)
      have hwz := HB.out.size
      obtain ⟨b0, b1, b2, b3, b4, b5, b6, b7⟩ := box8 hg1
      have hfr := box_any hg1
      have HG1 := Lib.hid hg1
      have HWZ := Lib.hid hwz
      clear hb1 hg1 q0 q1 q2 q3 q4 q5 q6 q7 hwz
      obtain ⟨q, hq⟩ : ∃ q, q = wr.heap.size := ⟨_, rfl⟩
      rw [← hq] at b0 b1 b2 b3 b4 b5 b6 b7 hfr hlt1 HG1 HWZ
      have HQ := Lib.hid hq
      rw [← hq]
      clear hq
      have HO3 := Lib.hid (own_aside (b := q) (j := 6) HO2.out (fun g hg => by have := (World.ownsRow.lt HO.out g hg).2; have := HQ.out; omega) (.string x.t))
      go_wp2_with (at_builtin; refine list_append_sl itemType _ rfl _ _ rfl w.heap.size (.slice A k c) k _ rfl (World.ownsRow.alloc HO3.out _) _ encM _ [x] rfl (sl_single (heap_at (by simp)) 8 encM x rfl) encM_len encM_one ?c3 ?c4 ?c5 ?_)
      case c3 => simp; unfold maxLen; omega
      case c4 => simp; omega
      case c5 => have := HB1.out.size; simp; omega
      intro v3 w3 g3
      obtain ⟨A', c', rfl⟩ := g3.form
      have HOF := Lib.hid g3.1
      have HB3 := Lib.hid (show Below w.heap.size w w3 from Below.trans (ball (bset HB1.out _ (by have := HWZ.out; omega)) _ (by have := HB1.out.size; simp; omega)) (g3.below (fun g hgg => (World.ownsRow.lt HO.out g hgg).1) (by have := HB1.out.size; simp; omega)))
      clear g3 b0 b1 b2 b3 b4 b5 b6 b7 hfr
      go_wp2
      go_roundw
      case rel => exact ⟨k + 1, by omega, by go_num, ⟨_, _, rfl⟩, by rw [List.take_succ_eq_append_getElem hlt, List.flatMap_append, ← HX.out]; exact HOF.out, HB3.out⟩
      case measure => simp [intOf]; omega
    · have hks : k = l.length := by omega
      subst hks
      go_wp2
      go_ret
      refine ⟨_, rfl, ?_, HB.out⟩
      have h := HO.out
      rw [List.take_length] at h
      exact h

set_option maxRecDepth 100000 in
set_option maxHeartbeats 8000000 in
theorem impl_anew (v : Value) (d : Dc) (w : World) (hv : DcAt w w.heap.size v d) (h1 : d.X.length ≤ 1048576) (h2 : d.P.length ≤ 1048576) (h3 : d.H.length ≤ 1048576) (h4 : ∀ x ∈ d.X, x.t.size ≤ 281474976710656) (h5 : ∀ x ∈ d.P, x.t.size ≤ 281474976710656) :
    Calls Try.prog 59 #[v] w (OwnsDc w d) := by
  obtain ⟨vx, vp, vh, rfl, hx, hp, hh⟩ := hv
  have HIX := Lib.hid (fun W (hb : Below w.heap.size w W) => impl_itemsAnew vx d.X W ((hx.below hb).more hb.size) h1 h4)
  have HIP := Lib.hid (fun W (hb : Below w.heap.size w W) => impl_itemsAnew vp d.P W ((hp.below hb).more hb.size) h2 h5)
  obtain ⟨A1, k1, rfl⟩ := hx.form; obtain ⟨A2, k2, rfl⟩ := hp.form; obtain ⟨A3, k3, rfl⟩ := hh.form
  have HVH := Lib.hid hh
  clear hx hp hh h4 h5
  have hL := ((Lg.start w).alloc (.cells #[.slice A1 d.X.length k1, .slice A2 d.P.length k2, .slice A3 d.H.length k3] 29)).alloc (.cells #[.slice none 0 0, .slice none 0 0, .slice none 0 0] 29)
  simp only [World.size_alloc] at hL
  have HL := Lib.hid hL; clear hL
  go_enter Try.func59, Try.ntmps59
  have HLEN := Lib.hid (show d.X.length ≤ 1048576 ∧ d.P.length ≤ 1048576 ∧ d.H.length ≤ 1048576 from ⟨h1, h2, h3⟩)
  go_upto_region 1 with fail
  refine wp_region_calm_lg_tail [(2, (fun u => ∃ C c, u = .slice C d.X.length c), fun u W => Ow W (w.heap.size + 1 + 1) 91 8 encM u d.X), (5, (fun u => ∃ C c, u = .slice C d.P.length c), fun u W => Ow W (w.heap.size + 1 + 1) 91 8 encM u d.P), (8, (fun u => ∃ C c, u = .slice C d.H.length c), fun u W => Ow W (w.heap.size + 1 + 1) 89 2 encN u d.H)] 9 (by kernel_rfl) (by kernel_rfl) (by intro x hx v; simp only [List.mem_cons, List.not_mem_nil, or_false] at hx; rcases hx with rfl | rfl | rfl <;> exact fun _ _ hb h => Ow.lift h hb) HL.out ?_
  repeat (first
    | (refine calm_skip (by rfl) ?_; try simp only [Act.put, List.setIfInBounds_toArray, List.set_cons_zero, List.set_cons_succ])
    | (refine calm_plain (by rfl) (by rfl) ?_; apply Exists.intro; refine ⟨fun wc hC hD => ?_, ?_⟩; (focus (clear hD; obtain ⟨y0, y1, y2⟩ := box3 (hC.blk _ List.mem_cons_self); obtain ⟨x0, x1, x2⟩ := box3 (hC.blk _ (List.mem_cons_of_mem _ List.mem_cons_self)); clear hC; go_simp; first | done | with_reducible rfl)); try simp only [Act.put, List.setIfInBounds_toArray, List.set_cons_zero, List.set_cons_succ]))
  refine calm_call _ _ (by rfl) (by rfl) ?_ ?_
  focus
    apply Exists.intro
    apply Exists.intro
    refine ⟨fun wc hC hD => ?_, fun wc hC hD => ?_⟩
    focus (clear hD; obtain ⟨y0, y1, y2⟩ := box3 (hC.blk _ List.mem_cons_self); obtain ⟨x0, x1, x2⟩ := box3 (hC.blk _ (List.mem_cons_of_mem _ List.mem_cons_self)); clear hC; go_simp; first | done | with_reducible exact ⟨rfl, rfl⟩)
    clear hD
    have hz := block_lt (hC.blk _ List.mem_cons_self)
    with_reducible refine (HIX.out _ hC.bel).mono ?_
    rintro e wx ⟨v, rfl, ho, hb⟩
    obtain ⟨C, c, rfl⟩ := ho.form
    exact ⟨_, rfl, hb, ⟨_, _, rfl⟩, ho.base (by omega)⟩
  rintro _ ⟨C1, l1, rfl⟩
  try simp only [Act.put, List.setIfInBounds_toArray, List.set_cons_zero, List.set_cons_succ]
  repeat (first
    | (refine calm_skip (by rfl) ?_; try simp only [Act.put, List.setIfInBounds_toArray, List.set_cons_zero, List.set_cons_succ])
    | (refine calm_plain (by rfl) (by rfl) ?_; apply Exists.intro; refine ⟨fun wc hC hD => ?_, ?_⟩; (focus (clear hD; obtain ⟨y0, y1, y2⟩ := box3 (hC.blk _ List.mem_cons_self); obtain ⟨x0, x1, x2⟩ := box3 (hC.blk _ (List.mem_cons_of_mem _ List.mem_cons_self)); clear hC; go_simp; first | done | with_reducible rfl)); try simp only [Act.put, List.setIfInBounds_toArray, List.set_cons_zero, List.set_cons_succ]))
  refine calm_call _ _ (by rfl) (by rfl) ?_ ?_
  focus
    apply Exists.intro
    apply Exists.intro
    refine ⟨fun wc hC hD => ?_, fun wc hC hD => ?_⟩
    focus (clear hD; obtain ⟨y0, y1, y2⟩ := box3 (hC.blk _ List.mem_cons_self); obtain ⟨x0, x1, x2⟩ := box3 (hC.blk _ (List.mem_cons_of_mem _ List.mem_cons_self)); clear hC; go_simp; first | done | with_reducible exact ⟨rfl, rfl⟩)
    clear hD
    have hz := block_lt (hC.blk _ List.mem_cons_self)
    with_reducible refine (HIP.out _ hC.bel).mono ?_
    rintro e wx ⟨v, rfl, ho, hb⟩
    obtain ⟨C, c, rfl⟩ := ho.form
    exact ⟨_, rfl, hb, ⟨_, _, rfl⟩, ho.base (by omega)⟩
  rintro _ ⟨C2, l2, rfl⟩
  try simp only [Act.put, List.setIfInBounds_toArray, List.set_cons_zero, List.set_cons_succ]
  repeat (first
    | (refine calm_skip (by rfl) ?_; try simp only [Act.put, List.setIfInBounds_toArray, List.set_cons_zero, List.set_cons_succ])
    | (refine calm_plain (by rfl) (by rfl) ?_; apply Exists.intro; refine ⟨fun wc hC hD => ?_, ?_⟩; (focus (clear hD; obtain ⟨y0, y1, y2⟩ := box3 (hC.blk _ List.mem_cons_self); obtain ⟨x0, x1, x2⟩ := box3 (hC.blk _ (List.mem_cons_of_mem _ List.mem_cons_self)); clear hC; go_simp; first | done | with_reducible rfl)); try simp only [Act.put, List.setIfInBounds_toArray, List.set_cons_zero, List.set_cons_succ]))
  refine calm_make _ _ (by rfl) (by rfl) ?_ ?_
  focus
    intro wc hC hD
    have hz := block_lt (hC.blk _ List.mem_cons_self)
    clear hD
    obtain ⟨v', w', hr, hb, ho⟩ := run_append_bare idType 27 wc (w.heap.size + 1 + 1) (.slice none 0 0) (.inl rfl) w.heap.size encN _ d.H ((HVH.out.below hC.bel)) encN_len encN_one (by have := HLEN.out; unfold maxLen; omega) (by have := HLEN.out; omega) (by omega)
    obtain ⟨C, c, rfl⟩ := ho.form
    exact ⟨_, w', exec_append rfl rfl rfl hr, hb, ⟨_, _, rfl⟩, ho⟩
  rintro _ ⟨C3, l3, rfl⟩
  try simp only [Act.put, List.setIfInBounds_toArray, List.set_cons_zero, List.set_cons_succ]
  repeat (first
    | (refine calm_skip (by rfl) ?_; try simp only [Act.put, List.setIfInBounds_toArray, List.set_cons_zero, List.set_cons_succ])
    | (refine calm_plain (by rfl) (by rfl) ?_; apply Exists.intro; refine ⟨fun wc hC hD => ?_, ?_⟩; (focus (clear hD; obtain ⟨y0, y1, y2⟩ := box3 (hC.blk _ List.mem_cons_self); obtain ⟨x0, x1, x2⟩ := box3 (hC.blk _ (List.mem_cons_of_mem _ List.mem_cons_self)); clear hC; go_simp; first | done | with_reducible rfl)); try simp only [Act.put, List.setIfInBounds_toArray, List.set_cons_zero, List.set_cons_succ]))
  refine calm_end ?_
  intro w7 hL7 hF7
  have hX := hF7 2
  have hP := hF7 5
  have hH := hF7 8
  simp [upd, noF] at hX hP hH
  have HX := Lib.hid hX; have HP := Lib.hid hP; have HH := Lib.hid hH
  clear hF7 hX hP hH
  replace HL := Lib.hid hL7
  clear hL7
  simp only [List.drop_succ_cons, List.drop_zero]
  have HBX := Lib.hid (HL.out.blk _ List.mem_cons_self)
  have hlt := block_lt HBX.out
  obtain ⟨y0, y1, y2⟩ := box3 HBX.out
  have f1 := box_any HBX.out
  go_wp2
  refine bodyPost_ret (v := .agg #[.slice C1 d.X.length l1, .slice C2 d.P.length l2, .slice C3 d.H.length l3]) ?_ rfl ⟨_, rfl, ⟨_, _, _, rfl, ?_, ?_, ?_⟩, ?_⟩
  · apply res_docC (b := w.heap.size + 1) _ (by kernel_rfl)
    · rfl
    · repeat (first | with_reducible apply block_set | (with_reducible refine set_there ?_ _ (by omega)) | with_reducible exact HBX.out)
    · simp only [List.setIfInBounds_toArray, List.set_cons_zero, List.set_cons_succ]
  case refine_5 =>
    refine HL.out.bel.trans ?_
    (repeat (first | with_reducible refine bset ?_ _ (by omega) | with_reducible refine ball ?_ _ (by first | exact Nat.le_refl _ | (simp only [World.size_alloc, World.size_setCell]; omega)) | with_reducible exact Below.refl _ _ | with_reducible refine Below.drew ?_))
  all_goals
    refine Ow.base (base := w.heap.size + 1 + 1) ?_ (by omega)
    repeat (first | with_reducible refine ofar ?_ _ (by omega) | with_reducible exact HX.out | with_reducible exact HP.out | with_reducible exact HH.out)

end Go.Proofs.Ytaggmcdfggmlhaa
