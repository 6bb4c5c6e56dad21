/-
  Contracts of the comparisons of docs, at two values that read alike: yes.
-/
import Derived.Test.YtghiipoeedfkhaaToDoc
import Derived.Test.YtghiipoeedfkhaaReady
import Derived.Deep.RegionWith
import Derived.Deep.Cut
namespace Go.Proofs.Ytghiipoeedfkhaa
set_option linter.unusedSimpArgs false
set_option linter.unusedVariables false
open Go.ChangeShapes Go.WideShapes Go.ChangeAt Go.RowKit

theorem DcAt.lift {w w' : World} {v : Value} {d : Dc} (h : DcAt w w.heap.size v d) (hb : Below w.heap.size w w') : DcAt w' w'.heap.size v d := (h.below hb).more hb.size
theorem DcAt.up {w : World} {v : Value} {d : Dc} (h : DcAt w w.heap.size v d) (o : Obj) : DcAt (w.alloc o) (w.alloc o).heap.size v d := h.lift (ball (Below.refl _ _) _ (Nat.le_refl _))

theorem eq_id (n : Nm) (w : World) : Calls Try.prog 38 #[vN n, vN n] w (Yes w) := by
  have h1 : (n.c != n.c) = false := by simp
  have h2 : (n.k != n.k) = false := by simp
  go_enter Try.func38, Try.ntmps38
  go_wp2
  go_ret
  exact ⟨rfl, by (repeat (first | with_reducible refine bset ?_ _ (by omega) | with_reducible refine ball ?_ _ (by first | exact Nat.le_refl _ | (simp only [World.size_alloc, World.size_setCell]; omega)) | with_reducible exact Below.refl _ _ | with_reducible refine Below.drew ?_))⟩

set_option maxRecDepth 100000 in
set_option maxHeartbeats 4000000 in
theorem eq_item (x : Im) (w : World) : Calls Try.prog 134 #[vM x, vM x] w (Yes w) := by
  have h1 : (x.t.toList != x.t.toList) = false := by simp
  have h2 : (x.t.toList == x.t.toList) = true := by simp
  have h3 : (x.g != x.g) = false := by simp
  have hL := ((Lg.start w).alloc (.cells #[.int .i64 x.i.c, .int .i64 x.i.k, .int .i64 x.l.c, .int .i64 x.l.k, .int .i64 x.r.c, .int .i64 x.r.k, .string x.t, .bool x.g] 83)).alloc (.cells #[.int .i64 x.i.c, .int .i64 x.i.k, .int .i64 x.l.c, .int .i64 x.l.k, .int .i64 x.r.c, .int .i64 x.r.k, .string x.t, .bool x.g] 83)
  simp only [World.size_alloc] at hL
  have HL := Lib.hid hL; clear hL
  go_enter Try.func134, Try.ntmps134
  go_wp2_with fail
  refine (eq_id _ _).mono ?_
  rintro e w' ⟨rfl, hb⟩
  replace HL := Lib.hid (HL.out.lift hb)
  clear hb
  obtain ⟨c0, c1, c2, c3, c4, c5, c6, c7⟩ := box8 (HL.out.blk _ List.mem_cons_self)
  obtain ⟨d0, d1, d2, d3, d4, d5, d6, d7⟩ := box8 (HL.out.blk _ (List.mem_cons_of_mem _ List.mem_cons_self))
  go_wp2_with fail
  refine (eq_id _ _).mono ?_
  rintro e w' ⟨rfl, hb⟩
  replace HL := Lib.hid (HL.out.lift hb)
  clear hb c0 c1 c2 c3 c4 c5 c6 c7 d0 d1 d2 d3 d4 d5 d6 d7
  obtain ⟨c0, c1, c2, c3, c4, c5, c6, c7⟩ := box8 (HL.out.blk _ List.mem_cons_self)
  obtain ⟨d0, d1, d2, d3, d4, d5, d6, d7⟩ := box8 (HL.out.blk _ (List.mem_cons_of_mem _ List.mem_cons_self))
  go_wp2_with fail
  refine (eq_id _ _).mono ?_
  rintro e w' ⟨rfl, hb⟩
  replace HL := Lib.hid (HL.out.lift hb)
  clear hb c0 c1 c2 c3 c4 c5 c6 c7 d0 d1 d2 d3 d4 d5 d6 d7
  obtain ⟨c0, c1, c2, c3, c4, c5, c6, c7⟩ := box8 (HL.out.blk _ List.mem_cons_self)
  obtain ⟨d0, d1, d2, d3, d4, d5, d6, d7⟩ := box8 (HL.out.blk _ (List.mem_cons_of_mem _ List.mem_cons_self))
  go_wp2
  go_ret
  exact ⟨rfl, HL.out.bel⟩

set_option maxRecDepth 100000 in
set_option maxHeartbeats 4000000 in
theorem eq_items (v1 v2 : Value) (L : List Im) (w : World) (h1 : Sl w w.heap.size 8 encM v1 L) (h2 : Sl w w.heap.size 8 encM v2 L) (hS : L.length ≤ 140737488351232) :
    Calls Try.prog 73 #[v1, v2] w (Yes w) := by
  obtain ⟨A1, k1, rfl⟩ := h1.form
  obtain ⟨A2, k2, rfl⟩ := h2.form
  have H1 := Lib.hid h1; have H2 := Lib.hid h2
  clear h1 h2
  go_enter Try.func73, Try.ntmps73
  go_wp2
  go_loopw [5] (fun i wr => ∃ k : Nat, k ≤ L.length ∧ i = .int .i64 k ∧ Below w.heap.size w wr) (fun i _ => L.length - (intOf i).toNat)
  case atStart => exact ⟨0, Nat.zero_le _, rfl, Below.refl _ _⟩
  case round =>
    obtain ⟨k, hk, rfl, hb⟩ := hrel
    have HL := Lib.hid (Lg.of hb); clear hb
    by_cases hlt : k < L.length
    · obtain ⟨a1, c1, e1, -, -, -, -, -, -, -, -, -⟩ := (H1.out.below HL.out.bel).item k hlt
      obtain ⟨a2, c2, e2, -, -, -, -, -, -, -, -, -⟩ := (H2.out.below HL.out.bel).item k hlt
      simp only [Value.slice.injEq, true_and] at e1 e2
      obtain ⟨rfl, rfl⟩ := e1
      obtain ⟨rfl, rfl⟩ := e2
      obtain ⟨x, hx⟩ : ∃ x, x = L[k] := ⟨_, rfl⟩
      have HV1 := Lib.hid (fun W (hb : Below w.heap.size w W) => (H1.out.below hb).item k hlt)
      have HV2 := Lib.hid (fun W (hb : Below w.heap.size w W) => (H2.out.below hb).item k hlt)
      rw [← hx] at HV1 HV2
      clear hx
      go_upto_region 6 with fail
      refine wp_region_calm_lg (told [(8, fun u => u = .bool true)]) (by kernel_rfl) (by kernel_rfl) (told_mono _) HL.out ?_
      repeat (first
        | (refine calm_skip (by rfl) ?_; try simp only [Act.put, List.setIfInBounds_toArray, List.set_cons_zero, List.set_cons_succ])
        | (refine calm_plain (by rfl) (by rfl) ?_; apply Exists.intro; refine ⟨fun wc hC hD => ?_, ?_⟩; (focus (clear hD; obtain ⟨p1, q1, e1, -, c0, c1, c2, c3, c4, c5, c6, c7⟩ := HV1.out _ hC.bel; obtain ⟨p2, q2, e2, -, d0, d1, d2, d3, d4, d5, d6, d7⟩ := HV2.out _ hC.bel; simp only [Value.slice.injEq, true_and] at e1 e2; obtain ⟨e1, e3⟩ := e1; obtain ⟨e2, e4⟩ := e2; cases e1; cases e2; clear e3 e4; clear hC; go_simp; first | done | with_reducible rfl)); try simp only [Act.put, List.setIfInBounds_toArray, List.set_cons_zero, List.set_cons_succ]))
      refine calm_call _ _ (by rfl) (by rfl) ?_ ?_
      focus
        apply Exists.intro
        apply Exists.intro
        refine ⟨fun wc hC hD => ?_, fun wc hC hD => ?_⟩
        focus (clear hD; obtain ⟨p1, q1, e1, -, c0, c1, c2, c3, c4, c5, c6, c7⟩ := HV1.out _ hC.bel; obtain ⟨p2, q2, e2, -, d0, d1, d2, d3, d4, d5, d6, d7⟩ := HV2.out _ hC.bel; simp only [Value.slice.injEq, true_and] at e1 e2; obtain ⟨e1, e3⟩ := e1; obtain ⟨e2, e4⟩ := e2; cases e1; cases e2; clear e3 e4; clear hC; go_simp; first | done | with_reducible exact ⟨rfl, rfl⟩)
        clear hD
        with_reducible refine (eq_item x _).mono ?_
        rintro e wx ⟨rfl, hb⟩
        exact ⟨_, rfl, hb, rfl, trivial⟩
      rintro _ rfl
      try simp only [Act.put, List.setIfInBounds_toArray, List.set_cons_zero, List.set_cons_succ]
      repeat (first
        | (refine calm_skip (by rfl) ?_; try simp only [Act.put, List.setIfInBounds_toArray, List.set_cons_zero, List.set_cons_succ])
        | (refine calm_plain (by rfl) (by rfl) ?_; apply Exists.intro; refine ⟨fun wc hC hD => ?_, ?_⟩; (focus (clear hD; obtain ⟨p1, q1, e1, -, c0, c1, c2, c3, c4, c5, c6, c7⟩ := HV1.out _ hC.bel; obtain ⟨p2, q2, e2, -, d0, d1, d2, d3, d4, d5, d6, d7⟩ := HV2.out _ hC.bel; simp only [Value.slice.injEq, true_and] at e1 e2; obtain ⟨e1, e3⟩ := e1; obtain ⟨e2, e4⟩ := e2; cases e1; cases e2; clear e3 e4; clear hC; go_simp; first | done | with_reducible rfl)); try simp only [Act.put, List.setIfInBounds_toArray, List.set_cons_zero, List.set_cons_succ]))
      refine calm_end ?_
      intro w7 hL7 hF7
      clear hF7
      replace HL := Lib.hid hL7
      clear hL7
      go_wp2
      go_roundw
      case rel => exact ⟨k + 1, by omega, by go_num, HL.out.bel⟩
      case measure => simp [intOf]; omega
    · go_wp2
      go_ret
      exact ⟨rfl, HL.out.bel⟩

set_option maxRecDepth 100000 in
set_option maxHeartbeats 4000000 in
theorem eq_ids (v1 v2 : Value) (L : List Nm) (w : World) (h1 : Sl w w.heap.size 2 encN v1 L) (h2 : Sl w w.heap.size 2 encN v2 L) (hS : L.length ≤ 140737488351232) :
    Calls Try.prog 74 #[v1, v2] w (Yes w) := by
  obtain ⟨A1, k1, rfl⟩ := h1.form
  obtain ⟨A2, k2, rfl⟩ := h2.form
  have H1 := Lib.hid h1; have H2 := Lib.hid h2
  clear h1 h2
  go_enter Try.func74, Try.ntmps74
  go_wp2
  go_loopw [5] (fun i wr => ∃ k : Nat, k ≤ L.length ∧ i = .int .i64 k ∧ Below w.heap.size w wr) (fun i _ => L.length - (intOf i).toNat)
  case atStart => exact ⟨0, Nat.zero_le _, rfl, Below.refl _ _⟩
  case round =>
    obtain ⟨k, hk, rfl, hb⟩ := hrel
    have HL := Lib.hid (Lg.of hb); clear hb
    by_cases hlt : k < L.length
    · obtain ⟨a1, c1, e1, -, -, -⟩ := (H1.out.below HL.out.bel).two k hlt
      obtain ⟨a2, c2, e2, -, -, -⟩ := (H2.out.below HL.out.bel).two k hlt
      simp only [Value.slice.injEq, true_and] at e1 e2
      obtain ⟨rfl, rfl⟩ := e1
      obtain ⟨rfl, rfl⟩ := e2
      obtain ⟨x, hx⟩ : ∃ x, x = L[k] := ⟨_, rfl⟩
      have HV1 := Lib.hid (fun W (hb : Below w.heap.size w W) => (H1.out.below hb).two k hlt)
      have HV2 := Lib.hid (fun W (hb : Below w.heap.size w W) => (H2.out.below hb).two k hlt)
      rw [← hx] at HV1 HV2
      clear hx
      go_upto_region 6 with fail
      refine wp_region_calm_lg (told [(8, fun u => u = .bool true)]) (by kernel_rfl) (by kernel_rfl) (told_mono _) HL.out ?_
      repeat (first
        | (refine calm_skip (by rfl) ?_; try simp only [Act.put, List.setIfInBounds_toArray, List.set_cons_zero, List.set_cons_succ])
        | (refine calm_plain (by rfl) (by rfl) ?_; apply Exists.intro; refine ⟨fun wc hC hD => ?_, ?_⟩; (focus (clear hD; obtain ⟨p1, q1, e1, -, c0, c1⟩ := HV1.out _ hC.bel; obtain ⟨p2, q2, e2, -, d0, d1⟩ := HV2.out _ hC.bel; simp only [Value.slice.injEq, true_and] at e1 e2; obtain ⟨e1, e3⟩ := e1; obtain ⟨e2, e4⟩ := e2; cases e1; cases e2; clear e3 e4; clear hC; go_simp; first | done | with_reducible rfl)); try simp only [Act.put, List.setIfInBounds_toArray, List.set_cons_zero, List.set_cons_succ]))
      refine calm_call _ _ (by rfl) (by rfl) ?_ ?_
      focus
        apply Exists.intro
        apply Exists.intro
        refine ⟨fun wc hC hD => ?_, fun wc hC hD => ?_⟩
        focus (clear hD; obtain ⟨p1, q1, e1, -, c0, c1⟩ := HV1.out _ hC.bel; obtain ⟨p2, q2, e2, -, d0, d1⟩ := HV2.out _ hC.bel; simp only [Value.slice.injEq, true_and] at e1 e2; obtain ⟨e1, e3⟩ := e1; obtain ⟨e2, e4⟩ := e2; cases e1; cases e2; clear e3 e4; clear hC; go_simp; first | done | with_reducible exact ⟨rfl, rfl⟩)
        clear hD
        with_reducible refine (eq_id x _).mono ?_
        rintro e wx ⟨rfl, hb⟩
        exact ⟨_, rfl, hb, rfl, trivial⟩
      rintro _ rfl
      try simp only [Act.put, List.setIfInBounds_toArray, List.set_cons_zero, List.set_cons_succ]
      repeat (first
        | (refine calm_skip (by rfl) ?_; try simp only [Act.put, List.setIfInBounds_toArray, List.set_cons_zero, List.set_cons_succ])
        | (refine calm_plain (by rfl) (by rfl) ?_; apply Exists.intro; refine ⟨fun wc hC hD => ?_, ?_⟩; (focus (clear hD; obtain ⟨p1, q1, e1, -, c0, c1⟩ := HV1.out _ hC.bel; obtain ⟨p2, q2, e2, -, d0, d1⟩ := HV2.out _ hC.bel; simp only [Value.slice.injEq, true_and] at e1 e2; obtain ⟨e1, e3⟩ := e1; obtain ⟨e2, e4⟩ := e2; cases e1; cases e2; clear e3 e4; clear hC; go_simp; first | done | with_reducible rfl)); try simp only [Act.put, List.setIfInBounds_toArray, List.set_cons_zero, List.set_cons_succ]))
      refine calm_end ?_
      intro w7 hL7 hF7
      clear hF7
      replace HL := Lib.hid hL7
      clear hL7
      go_wp2
      go_roundw
      case rel => exact ⟨k + 1, by omega, by go_num, HL.out.bel⟩
      case measure => simp [intOf]; omega
    · go_wp2
      go_ret
      exact ⟨rfl, HL.out.bel⟩

set_option maxRecDepth 100000 in
set_option maxHeartbeats 4000000 in
theorem eq_doc (v1 v2 : Value) (d : Dc) (w : World) (h1 : DcAt w w.heap.size v1 d) (h2 : DcAt w w.heap.size v2 d) (hX : d.X.length ≤ 140737488351232) (hP : d.P.length ≤ 140737488351232) (hH : d.H.length ≤ 140737488351232) :
    Calls Try.prog 22 #[v1, v2] w (Yes w) := by
  obtain ⟨vx, vp, vh, rfl, x1, p1, h1⟩ := h1
  obtain ⟨ux, up, uh, rfl, x2, p2, h2⟩ := h2
  have HX := Lib.hid (fun W (hb : Below w.heap.size w W) => eq_items vx ux d.X W ((x1.below hb).more hb.size) ((x2.below hb).more hb.size) hX)
  have HP := Lib.hid (fun W (hb : Below w.heap.size w W) => eq_items vp up d.P W ((p1.below hb).more hb.size) ((p2.below hb).more hb.size) hP)
  have HH := Lib.hid (fun W (hb : Below w.heap.size w W) => eq_ids vh uh d.H W ((h1.below hb).more hb.size) ((h2.below hb).more hb.size) hH)
  obtain ⟨A1, k1, rfl⟩ := x1.form; obtain ⟨A2, k2, rfl⟩ := p1.form; obtain ⟨A3, k3, rfl⟩ := h1.form
  obtain ⟨B1, l1, rfl⟩ := x2.form; obtain ⟨B2, l2, rfl⟩ := p2.form; obtain ⟨B3, l3, rfl⟩ := h2.form
  clear x1 x2 p1 p2 h1 h2
  have hL := ((Lg.start w).alloc (.cells #[.slice A1 d.X.length k1, .slice A2 d.P.length k2, .slice A3 d.H.length k3] 29)).alloc (.cells #[.slice B1 d.X.length l1, .slice B2 d.P.length l2, .slice B3 d.H.length l3] 29)
  simp only [World.size_alloc] at hL
  have HL := Lib.hid hL; clear hL
  go_enter Try.func22, Try.ntmps22
  go_wp2_with fail
  refine (HX.out _ HL.out.bel).mono ?_
  rintro e w' ⟨rfl, hb⟩
  replace HL := Lib.hid (HL.out.lift hb)
  clear hb
  obtain ⟨c0, c1, c2⟩ := box3 (HL.out.blk _ List.mem_cons_self)
  obtain ⟨d0, d1, d2⟩ := box3 (HL.out.blk _ (List.mem_cons_of_mem _ List.mem_cons_self))
  go_wp2_with fail
  refine (HP.out _ HL.out.bel).mono ?_
  rintro e w' ⟨rfl, hb⟩
  replace HL := Lib.hid (HL.out.lift hb)
  clear hb c0 c1 c2 d0 d1 d2
  obtain ⟨c0, c1, c2⟩ := box3 (HL.out.blk _ List.mem_cons_self)
  obtain ⟨d0, d1, d2⟩ := box3 (HL.out.blk _ (List.mem_cons_of_mem _ List.mem_cons_self))
  go_wp2_with fail
  refine (HH.out _ HL.out.bel).mono ?_
  rintro e w' ⟨rfl, hb⟩
  replace HL := Lib.hid (HL.out.lift hb)
  clear hb c0 c1 c2 d0 d1 d2
  go_wp2
  go_ret
  exact ⟨rfl, HL.out.bel⟩

end Go.Proofs.Ytghiipoeedfkhaa
