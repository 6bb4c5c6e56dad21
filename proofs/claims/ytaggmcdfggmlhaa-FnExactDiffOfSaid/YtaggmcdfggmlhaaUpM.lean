/-
  Updates as plain data: opened, measured, copied, compared.
-/
import Derived.Test.YtaggmcdfggmlhaaMkM
namespace Go.Proofs.Ytaggmcdfggmlhaa
set_option linter.unusedSimpArgs false
set_option linter.unusedVariables false
open Go.ChangeShapes Go.WideShapes Go.ChangeAt Go.RowKit Go.Deep Go.Joins

/-- An update. -/
structure Up where
  X : List Im
  H : List Nm
def HeldU (u : Up) : Prop := u.X.length ≤ 9223372036854775807 ∧ (∀ x ∈ u.X, HeldM x) ∧ u.H.length ≤ 9223372036854775807 ∧ ∀ n ∈ u.H, HeldN n
def SmallU (u : Up) : Prop := u.X.length ≤ 1048576 ∧ (∀ x ∈ u.X, x.t.size ≤ 1048576) ∧ u.H.length ≤ 1048576
/-- Lists and texts as a walk wants them. -/
def FitU (u : Up) : Prop := (u.X.length ≤ 140737488351232 ∧ u.H.length ≤ 140737488351232) ∧ ∀ x ∈ u.X, x.t.size ≤ maxLen
theorem SmallU.fit {u : Up} (h : SmallU u) : FitU u := ⟨⟨by have := h.1; omega, by have := h.2.2; omega⟩, fun x hx => by have := h.2.1 x hx; unfold maxLen; omega⟩
def UpAt (w : World) (B : Nat) (v : Value) (u : Up) : Prop := ∃ vx vh, v = .agg #[vx, vh] ∧ Sl w B 8 encM vx u.X ∧ Sl w B 2 encN vh u.H
theorem UpAt.below {w w' : World} {B : Nat} {v : Value} {u : Up} (h : UpAt w B v u) (hb : Below B w w') : UpAt w' B v u := by
  obtain ⟨vx, vh, rfl, h1, h2⟩ := h
  exact ⟨vx, vh, rfl, h1.below hb, h2.below hb⟩
theorem UpAt.more {w : World} {B B' : Nat} {v : Value} {u : Up} (h : UpAt w B v u) (hB : B ≤ B') : UpAt w B' v u := by
  obtain ⟨vx, vh, rfl, h1, h2⟩ := h
  exact ⟨vx, vh, rfl, h1.more hB, h2.more hB⟩
theorem UpAt.lift {w w' : World} {v : Value} {u : Up} (h : UpAt w w.heap.size v u) (hb : Below w.heap.size w w') : UpAt w' w'.heap.size v u := (h.below hb).more hb.size
def UpOw (w : World) (base : Nat) (v : Value) (u : Up) : Prop := ∃ vx vh, v = .agg #[vx, vh] ∧ Ow w base 91 8 encM vx u.X ∧ Ow w base 89 2 encN vh u.H
theorem UpOw.at_ {w : World} {base : Nat} {v : Value} {u : Up} (h : UpOw w base v u) : UpAt w w.heap.size v u := by
  obtain ⟨vx, vh, rfl, h1, h2⟩ := h
  exact ⟨vx, vh, rfl, h1.sl encM_len, h2.sl encN_len⟩
theorem UpOw.lift {w w' : World} {base : Nat} {v : Value} {u : Up} (h : UpOw w base v u) (hb : Below w.heap.size w w') : UpOw w' base v u := by
  obtain ⟨vx, vh, rfl, h1, h2⟩ := h
  exact ⟨vx, vh, rfl, h1.lift hb, h2.lift hb⟩
theorem UpOw.base {w : World} {base base' : Nat} {v : Value} {u : Up} (h : UpOw w base v u) (hb : base' ≤ base) : UpOw w base' v u := by
  obtain ⟨vx, vh, rfl, h1, h2⟩ := h
  exact ⟨vx, vh, rfl, h1.base hb, h2.base hb⟩
def OwnsUp (w : World) (u : Up) (e : Ending) (w' : World) : Prop := ∃ v, e = .returned v ∧ UpOw w' w.heap.size v u ∧ Below w.heap.size w w'
theorem OwnsUp.parts {w : World} {u : Up} {e : Ending} {w' : World} (h : OwnsUp w u e w') : ∃ A1 c1 A2 c2, e = .returned (.agg #[.slice A1 u.X.length c1, .slice A2 u.H.length c2]) ∧
    UpOw w' w.heap.size (.agg #[.slice A1 u.X.length c1, .slice A2 u.H.length c2]) u ∧ Below w.heap.size w w' := by
  obtain ⟨v, rfl, ⟨vx, vh, rfl, h1, h2⟩, hb⟩ := h
  obtain ⟨A1, c1, rfl⟩ := h1.form
  obtain ⟨A2, c2, rfl⟩ := h2.form
  exact ⟨A1, c1, A2, c2, rfl, ⟨_, _, rfl, h1, h2⟩, hb⟩

section
variable {H : Type} {enc : TypeId × Value → H} {w : World} {base : Nat} {held : Bool}
set_option maxRecDepth 100000
/-- An update that came in. -/
theorem came_update {b0 : Nat} {r : Reach} {v : Value} {x : DataW H} {p : List MemPlace} (hv : Value.okWide Try.prog w r b0 63 v) (h : DataW.Trod enc Try.prog w base (fun _ => true) held 63 v x p) : ∃ u : Up, UpAt w w.heap.size v u ∧ HeldU u := by
  obtain ⟨v0, v1, y0, y1, n, rfl, _, _, h0, h1⟩ := open_agg2 Try.underlying63 (by kernel_rfl) (by kernel_rfl) hv h
  obtain ⟨X, s1, s2, s3⟩ := open_sl encM HeldM encM_len Try.underlying43 (by kernel_rfl) (by omega) (fun _ _ _ => open_item) h0
  obtain ⟨L, l1, l2, l3⟩ := open_sl encN HeldN encN_len Try.underlying44 (by kernel_rfl) (by omega) (fun _ _ _ => open_id) h1
  exact ⟨⟨X, L⟩, ⟨v0, v1, rfl, s1, l1⟩, s2, s3, l2, l3⟩
end

theorem sz_update (v : Value) (u : Up) (w : World) (B : Nat) (left : Int) (l0 : 0 ≤ left) (l1 : left ≤ 1048576) (hv : UpAt w B v u) (hB : B ≤ w.heap.size) (hd : HeldU u) :
    Calls Try.prog 36 #[v, .int .i64 left] w (SzR w (SmallU u)) := by
  obtain ⟨vx, vh, rfl, hx, hh⟩ := hv
  obtain ⟨d1, d2, d5, d6⟩ := hd
  have H1 := Lib.hid (fun W (hb : Below w.heap.size w W) => sz_items vx u.X left W W.heap.size (((hx.more hB).below hb).more hb.size) (Nat.le_refl _) l0 l1 d1 (fun x h => (d2 x h).2.2.2))
  have H3 := Lib.hid (fun W (hb : Below w.heap.size w W) l l0 l1 => sz_ids vh u.H l W W.heap.size (((hh.more hB).below hb).more hb.size) l0 l1 d5)
  clear hx hh d2 d6
  go_enter Try.func36, Try.ntmps36
  go_wp2_with fail
  refine (H1.out _ (by (repeat (first | with_reducible refine bset ?_ _ (by omega) | with_reducible refine ball ?_ _ (by first | exact Nat.le_refl _ | (simp only [World.size_alloc, World.size_setCell]; omega)) | with_reducible exact Below.refl _ _ | with_reducible refine Below.drew ?_)))).mono ?_
  rintro e w1 ⟨r, rfl, r0, r1, hq, hb1⟩
  obtain ⟨hc, hf⟩ := bcell hb1
  have hz := hb1.size; simp only [World.size_alloc] at hz
  have hz0 : w.heap.size < w1.heap.size := by omega
  have HQ := Lib.hid hq; have HB1 := Lib.hid (below_alloc_call (Below.refl w.heap.size w) (Nat.le_refl _) hb1)
  clear hq hb1
  by_cases h1 : r < 0
  · go_wp2
    go_ret
    exact ⟨-1, rfl, by omega, by omega, fun h => by omega, HB1.out⟩
  · go_wp2_with fail
    refine (H3.out _ HB1.out r (by omega) r1).mono ?_
    rintro e w3 ⟨s, rfl, u0, u1, hq, hb3⟩
    have HQ3 := Lib.hid hq; have HB3 := Lib.hid (below_call HB1.out HB1.out.size hb3)
    clear hq hb3
    by_cases h3 : s < 0
    · go_wp2
      go_ret
      exact ⟨-1, rfl, by omega, by omega, fun h => by omega, HB3.out⟩
    · go_wp2
      go_ret
      exact ⟨s, rfl, by omega, by omega, fun h => by
        obtain ⟨a, b⟩ := HQ.out (by omega)
        exact ⟨a, b, HQ3.out (by omega)⟩, HB3.out⟩

set_option maxRecDepth 100000 in
theorem to_update (v : Value) (u : Up) (w : World) (hv : UpAt w w.heap.size v u) (h1 : u.X.length ≤ 1048576) (h3 : u.H.length ≤ 1048576) :
    Calls Try.prog 38 #[v] w (OwnsUp w u) := by
  obtain ⟨vx, vh, rfl, hx, hh⟩ := hv
  have H1 := Lib.hid (fun W (hb : Below w.heap.size w W) => to_items vx u.X W ((hx.below hb).more hb.size) h1)
  have H3 := Lib.hid (fun W (hb : Below w.heap.size w W) => to_ids vh u.H W ((hh.below hb).more hb.size) h3)
  clear hx hh h1 h3
  go_enter Try.func38, Try.ntmps38
  go_wp2_with fail
  refine (H1.out _ (by (repeat (first | with_reducible refine bset ?_ _ (by omega) | with_reducible refine ball ?_ _ (by first | exact Nat.le_refl _ | (simp only [World.size_alloc, World.size_setCell]; omega)) | with_reducible exact Below.refl _ _ | with_reducible refine Below.drew ?_)))).mono ?_
  rintro e w1 ⟨v1, rfl, ho1, hb1⟩
  obtain ⟨A1, c1, rfl⟩ := ho1.form
  have hz := hb1.size
  simp only [World.size_alloc] at hz
  have hs1 : w.heap.size + 1 + 1 < w1.heap.size := by omega
  have g0 : w1.heap[w.heap.size]? = _ := keep_blk hb1 (alloc_there (alloc_there (heap_alloc_new w _) _) _)
  have g1 : w1.heap[w.heap.size + 1]? = _ := keep_blk hb1 (alloc_there (heap_two w _ _) _)
  have g2 : w1.heap[w.heap.size + 1 + 1]? = _ := keep_blk hb1 (heap_three w _ _ _)
  have HB := Lib.hid (show Below w.heap.size w w1 from below_call (by (repeat (first | with_reducible refine bset ?_ _ (by omega) | with_reducible refine ball ?_ _ (by first | exact Nat.le_refl _ | (simp only [World.size_alloc, World.size_setCell]; omega)) | with_reducible exact Below.refl _ _ | with_reducible refine Below.drew ?_))) (by (first | (simp; done) | (simp; omega) | omega)) hb1)
  have HO1 := Lib.hid (ho1.base (base' := w.heap.size + 1 + 1 + 1) (by simp only [World.size_alloc]; omega))
  have HG0 := Lib.hid g0; have HG1 := Lib.hid g1; have HG2 := Lib.hid g2
  obtain ⟨k0, k1⟩ := box2 g0
  obtain ⟨d0, d1⟩ := box2 g2
  have f2 := box_any g2
  clear ho1 hb1 g0 g1 g2 hz
  go_wp2_with fail
  refine (H3.out _ (bset HB.out _ (by omega))).mono ?_
  rintro e w3 ⟨v3, rfl, ho3, hb3⟩
  obtain ⟨A3, c3, rfl⟩ := ho3.form
  have hz := hb3.size
  simp only [World.size_setCell] at hz
  have hs3 : w.heap.size + 1 + 1 < w3.heap.size := by omega
  have g0 : w3.heap[w.heap.size]? = _ := keep_blk hb3 (set_there HG0.out _ (by omega))
  have g1 : w3.heap[w.heap.size + 1]? = _ := keep_blk hb3 (set_there HG1.out _ (by omega))
  have g2 : w3.heap[w.heap.size + 1 + 1]? = _ := keep_blk hb3 (block_set HG2.out _ _)
  replace HB := Lib.hid (show Below w.heap.size w w3 from below_call (bset HB.out _ (by omega)) (by simp only [World.size_setCell]; omega) hb3)
  replace HO1 := Lib.hid ((HO1.out.far (p := ⟨w.heap.size + 1 + 1, 0, none⟩) (by simp only; omega) (.slice A1 u.X.length c1)).lift hb3)
  have HO3 := Lib.hid (ho3.base (base' := w.heap.size + 1 + 1 + 1) (by simp only [World.size_setCell]; omega))
  replace HG0 := Lib.hid g0; replace HG1 := Lib.hid g1; replace HG2 := Lib.hid g2
  clear k0 k1 d0 d1 f2
  obtain ⟨k0, k1⟩ := box2 g0
  obtain ⟨d0, d1⟩ := box2 g2
  obtain ⟨r0, r1⟩ := box2 g1
  have f2 := box_any g2
  have f1 := box_any g1
  clear ho3 hb3 g0 g1 g2 hz hs1
  go_wp2
  refine bodyPost_ret (v := .agg #[.slice A1 u.X.length c1, .slice A3 u.H.length c3]) (by simp [results, Try.results38, go_sem, *]) rfl ⟨_, rfl, ⟨_, _, rfl, ?_, ?_⟩, ?_⟩
  case refine_3 =>
    refine HB.out.trans ?_
    (repeat (first | with_reducible refine bset ?_ _ (by omega) | with_reducible refine ball ?_ _ (by first | exact Nat.le_refl _ | (simp only [World.size_alloc, World.size_setCell]; omega)) | with_reducible exact Below.refl _ _ | with_reducible refine Below.drew ?_))
  all_goals
    refine Ow.base (base := w.heap.size + 1 + 1 + 1) ?_ (by omega)
    repeat (first | with_reducible refine ofar ?_ _ (by omega) | with_reducible exact HO1.out | with_reducible exact HO3.out)

set_option maxRecDepth 100000 in
set_option maxHeartbeats 4000000 in
theorem eq_update (v1 v2 : Value) (u : Up) (w : World) (h1 : UpAt w w.heap.size v1 u) (h2 : UpAt w w.heap.size v2 u) (hf : FitU u) :
    Calls Try.prog 40 #[v1, v2] w (Yes w) := by
  obtain ⟨vx, vh, rfl, x1, h1⟩ := h1
  obtain ⟨ux, uh, rfl, x2, h2⟩ := h2
  have HX := Lib.hid (fun W (hb : Below w.heap.size w W) => eq_items vx ux u.X W ((x1.below hb).more hb.size) ((x2.below hb).more hb.size) hf.1.1)
  have HH := Lib.hid (fun W (hb : Below w.heap.size w W) => eq_ids vh uh u.H W ((h1.below hb).more hb.size) ((h2.below hb).more hb.size) hf.1.2)
  obtain ⟨A1, k1, rfl⟩ := x1.form; obtain ⟨A3, k3, rfl⟩ := h1.form
  obtain ⟨B1, l1, rfl⟩ := x2.form; obtain ⟨B3, l3, rfl⟩ := h2.form
  clear x1 x2 h1 h2
  have hL := ((Lg.start w).alloc (.cells #[.slice A1 u.X.length k1, .slice A3 u.H.length k3] 37)).alloc (.cells #[.slice B1 u.X.length l1, .slice B3 u.H.length l3] 37)
  simp only [World.size_alloc] at hL
  have HL := Lib.hid hL; clear hL
  go_enter Try.func40, Try.ntmps40
  go_wp2_with fail
  refine (HX.out _ HL.out.bel).mono ?_
  rintro e w' ⟨rfl, hb⟩
  replace HL := Lib.hid (HL.out.lift hb)
  clear hb
  obtain ⟨c0, c1⟩ := box2 (HL.out.blk _ List.mem_cons_self)
  obtain ⟨d0, d1⟩ := box2 (HL.out.blk _ (List.mem_cons_of_mem _ List.mem_cons_self))
  go_wp2_with fail
  refine (HH.out _ HL.out.bel).mono ?_
  rintro e w' ⟨rfl, hb⟩
  replace HL := Lib.hid (HL.out.lift hb)
  clear hb c0 c1 d0 d1
  go_wp2
  go_ret
  exact ⟨rfl, HL.out.bel⟩

end Go.Proofs.Ytaggmcdfggmlhaa
