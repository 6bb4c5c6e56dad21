/-
  Contract of the program's spanOf: between which places an item was written.
-/
import Derived.Test.YtghiipoeedfkhaaILst
namespace Go.Proofs.Ytghiipoeedfkhaa
set_option linter.unusedSimpArgs false
set_option linter.unusedVariables false
open Go.ChangeShapes Go.WideShapes Go.ChangeAt Go.RowKit

theorem res_span {W : World} {b : Nat} {cs : Array Value} {a0 a1 bb : Value} (tm : Array Value) (ht : tm[4]? = some (.pointer (some ⟨b, 0, none⟩))) (h5 : tm[5]? = some bb) (hg : W.heap[b]? = some (.cells cs 186 (0, 0))) (he : cs = #[a0, a1]) :
    (results Try.f154 tm).run Try.prog W = .ok (.tuple #[.agg #[a0, a1], bb]) W := by
  subst he
  obtain ⟨c0, c1⟩ := box2 hg
  simp [results, Try.results154, go_sem, ht, h5, c0, c1]

set_option maxRecDepth 100000 in
set_option maxHeartbeats 8000000 in
theorem impl_span (v : Value) (l : List Im) (x : Im) (w : World) (hv : Sl w w.heap.size 8 encM v l) (hl : l.length ≤ 140737488351232) :
    Calls Try.prog 154 #[v, vM x] w (Back (spanV l x) w) := by
  have HA := Lib.hid (fun W (hb : Below w.heap.size w W) => impl_place v l x.l W ((hv.below hb).more hb.size) hl)
  have HR := Lib.hid (fun W (hb : Below w.heap.size w W) => impl_place v l x.r W ((hv.below hb).more hb.size) hl)
  have HNL := Lib.hid (fun W => impl_none x.l W)
  have HNR := Lib.hid (fun W => impl_none x.r W)
  obtain ⟨A, c, rfl⟩ := hv.form
  clear hv
  have HY := Lib.hid (spanV_yes (l := l) (x := x)); have HN := Lib.hid (spanV_no (l := l) (x := x))
  have ha0 := at_lo l x.l; have ha1 := at_hi l x.l; have hr0 := at_lo l x.r; have hr1 := at_hi l x.r
  cases hnl : eqN x.l no with
  | true =>
    replace HNL := Lib.hid (fun W => (HNL.out W).mono fun _ _ h => Tell.to h hnl)
    have hx := eqN_t.1 hnl; clear hnl
    have el := left_no (l := l) hx
    cases hnr : eqN x.r no with
    | true =>
      replace HNR := Lib.hid (fun W => (HNR.out W).mono fun _ _ h => Tell.to h hnr)
      have hy := eqN_t.1 hnr; clear hnr
      have er := right_no (l := l) hy
      have HE := Lib.hid (show spanV l x = .tuple #[.agg #[.int .i64 (-1), .int .i64 l.length], .bool true] by rw [HY.out ⟨fun h => h.2 hx, by omega⟩, el, er])
      clear hx hy el er
      go_enter Try.func154, Try.ntmps154
      go_wp2_with fail
      refine (HNL.out _).mono ?_
      rintro e w1 ⟨rfl, hb⟩
      have hz := hb.size; simp only [World.size_alloc] at hz
      have hs : w.heap.size + 1 + 1 < w1.heap.size := by omega
      have HG0 := Lib.hid (keep_blk hb (alloc_there (alloc_there (heap_alloc_new w _) _) _))
      have HG1 := Lib.hid (keep_blk hb (alloc_there (heap_two w _ _) _))
      have HG2 := Lib.hid (keep_blk hb (heap_three w _ _ _))
      have HB := Lib.hid (show Below w.heap.size w w1 from below_call (by (repeat (first | with_reducible refine bset ?_ _ (by omega) | with_reducible refine ball ?_ _ (by first | exact Nat.le_refl _ | (simp only [World.size_alloc, World.size_setCell]; omega)) | with_reducible exact Below.refl _ _ | with_reducible refine Below.drew ?_))) (by (first | (simp; done) | (simp; omega) | omega)) hb)
      clear hb hz
      obtain ⟨c0, c1, c2, c3, c4, c5, c6, c7⟩ := box8 HG0.out
      obtain ⟨r0, r1⟩ := box2 HG1.out
      obtain ⟨d0, d1⟩ := box2 HG2.out
      have f1 := box_any HG1.out
      have f2 := box_any HG2.out
      go_wp2_with fail
      refine (HNR.out _).mono ?_
      rintro e w2 ⟨rfl, hb⟩
      have hz := hb.size; (try simp only [World.size_setCell] at hz)
      have hs2 : w.heap.size + 1 + 1 < w2.heap.size := by omega
      replace HG0 := Lib.hid (keep_blk hb HG0.out); replace HG1 := Lib.hid (keep_blk hb HG1.out); replace HG2 := Lib.hid (keep_blk hb HG2.out)
      replace HB := Lib.hid (below_call HB.out HB.out.size hb)
      clear hb hz
      clear c0 c1 c2 c3 c4 c5 c6 c7 r0 r1 d0 d1 f1 f2
      obtain ⟨c0, c1, c2, c3, c4, c5, c6, c7⟩ := box8 HG0.out
      obtain ⟨r0, r1⟩ := box2 HG1.out
      obtain ⟨d0, d1⟩ := box2 HG2.out
      have f1 := box_any HG1.out
      have f2 := box_any HG2.out
      go_wp2
      refine bodyPost_ret (v := .tuple #[.agg #[.int .i64 (-1), .int .i64 l.length], .bool true]) ?_ rfl ⟨by rw [HE.out], ?_⟩
      · apply res_span (b := w.heap.size + 1)
        · rfl
        · rfl
        · repeat (first | with_reducible apply block_set | (with_reducible refine set_there ?_ _ (by omega)) | with_reducible exact HG1.out)
        · simp only [List.setIfInBounds_toArray, List.set_cons_zero, List.set_cons_succ]
      · refine HB.out.trans ?_
        (repeat (first | with_reducible refine bset ?_ _ (by omega) | with_reducible refine ball ?_ _ (by first | exact Nat.le_refl _ | (simp only [World.size_alloc, World.size_setCell]; omega)) | with_reducible exact Below.refl _ _ | with_reducible refine Below.drew ?_))
    | false =>
      replace HNR := Lib.hid (fun W => (HNR.out W).mono fun _ _ h => Tell.to h hnr)
      have hy := eqN_f.1 hnr; clear hnr
      have er := right_id (l := l) hy
      obtain ⟨b, hb⟩ : ∃ b, b = atOf l x.r := ⟨_, rfl⟩
      rw [← hb] at HR hr0 hr1 er
      by_cases h2 : b < 0
      · have HE := Lib.hid (show spanV l x = .tuple #[.agg #[.int .i64 0, .int .i64 0], .bool false] from HN.out (by rw [er]; exact fun h => h.2 h2))
        clear hx hy el er hb
        go_enter Try.func154, Try.ntmps154
        go_wp2_with fail
        refine (HNL.out _).mono ?_
        rintro e w1 ⟨rfl, hb⟩
        have hz := hb.size; simp only [World.size_alloc] at hz
        have hs : w.heap.size + 1 + 1 < w1.heap.size := by omega
        have HG0 := Lib.hid (keep_blk hb (alloc_there (alloc_there (heap_alloc_new w _) _) _))
        have HG1 := Lib.hid (keep_blk hb (alloc_there (heap_two w _ _) _))
        have HG2 := Lib.hid (keep_blk hb (heap_three w _ _ _))
        have HB := Lib.hid (show Below w.heap.size w w1 from below_call (by (repeat (first | with_reducible refine bset ?_ _ (by omega) | with_reducible refine ball ?_ _ (by first | exact Nat.le_refl _ | (simp only [World.size_alloc, World.size_setCell]; omega)) | with_reducible exact Below.refl _ _ | with_reducible refine Below.drew ?_))) (by (first | (simp; done) | (simp; omega) | omega)) hb)
        clear hb hz
        obtain ⟨c0, c1, c2, c3, c4, c5, c6, c7⟩ := box8 HG0.out
        obtain ⟨r0, r1⟩ := box2 HG1.out
        obtain ⟨d0, d1⟩ := box2 HG2.out
        have f1 := box_any HG1.out
        have f2 := box_any HG2.out
        go_wp2_with fail
        refine (HNR.out _).mono ?_
        rintro e w2 ⟨rfl, hb⟩
        have hz := hb.size; (try simp only [World.size_setCell] at hz)
        have hs2 : w.heap.size + 1 + 1 < w2.heap.size := by omega
        replace HG0 := Lib.hid (keep_blk hb HG0.out); replace HG1 := Lib.hid (keep_blk hb HG1.out); replace HG2 := Lib.hid (keep_blk hb HG2.out)
        replace HB := Lib.hid (below_call HB.out HB.out.size hb)
        clear hb hz
        clear c0 c1 c2 c3 c4 c5 c6 c7 r0 r1 d0 d1 f1 f2
        obtain ⟨c0, c1, c2, c3, c4, c5, c6, c7⟩ := box8 HG0.out
        obtain ⟨r0, r1⟩ := box2 HG1.out
        obtain ⟨d0, d1⟩ := box2 HG2.out
        have f1 := box_any HG1.out
        have f2 := box_any HG2.out
        go_wp2_with fail
        refine (HR.out _ HB.out).mono ?_
        rintro e w3 ⟨rfl, hb⟩
        have hz := hb.size; (try simp only [World.size_setCell] at hz)
        have hs3 : w.heap.size + 1 + 1 < w3.heap.size := by omega
        replace HG0 := Lib.hid (keep_blk hb HG0.out); replace HG1 := Lib.hid (keep_blk hb HG1.out); replace HG2 := Lib.hid (keep_blk hb HG2.out)
        replace HB := Lib.hid (below_call HB.out HB.out.size hb)
        clear hb hz
        clear c0 c1 c2 c3 c4 c5 c6 c7 r0 r1 d0 d1 f1 f2
        obtain ⟨c0, c1, c2, c3, c4, c5, c6, c7⟩ := box8 HG0.out
        obtain ⟨r0, r1⟩ := box2 HG1.out
        obtain ⟨d0, d1⟩ := box2 HG2.out
        have f1 := box_any HG1.out
        have f2 := box_any HG2.out
        go_wp2
        refine bodyPost_ret (v := .tuple #[.agg #[.int .i64 0, .int .i64 0], .bool false]) ?_ rfl ⟨by rw [HE.out], ?_⟩
        · apply res_span (b := w.heap.size + 1)
          · rfl
          · rfl
          · repeat (first | with_reducible apply block_set | (with_reducible refine set_there ?_ _ (by omega)) | with_reducible exact HG1.out)
          · simp only [List.setIfInBounds_toArray, List.set_cons_zero, List.set_cons_succ]
        · refine HB.out.trans ?_
          (repeat (first | with_reducible refine bset ?_ _ (by omega) | with_reducible refine ball ?_ _ (by first | exact Nat.le_refl _ | (simp only [World.size_alloc, World.size_setCell]; omega)) | with_reducible exact Below.refl _ _ | with_reducible refine Below.drew ?_))
      · have HE := Lib.hid (show spanV l x = .tuple #[.agg #[.int .i64 (-1), .int .i64 b], .bool true] by rw [HY.out ⟨fun h => h.2 hx, by rw [er]; exact h2⟩, el, er])
        clear hx hy el er hb
        go_enter Try.func154, Try.ntmps154
        go_wp2_with fail
        refine (HNL.out _).mono ?_
        rintro e w1 ⟨rfl, hb⟩
        have hz := hb.size; simp only [World.size_alloc] at hz
        have hs : w.heap.size + 1 + 1 < w1.heap.size := by omega
        have HG0 := Lib.hid (keep_blk hb (alloc_there (alloc_there (heap_alloc_new w _) _) _))
        have HG1 := Lib.hid (keep_blk hb (alloc_there (heap_two w _ _) _))
        have HG2 := Lib.hid (keep_blk hb (heap_three w _ _ _))
        have HB := Lib.hid (show Below w.heap.size w w1 from below_call (by (repeat (first | with_reducible refine bset ?_ _ (by omega) | with_reducible refine ball ?_ _ (by first | exact Nat.le_refl _ | (simp only [World.size_alloc, World.size_setCell]; omega)) | with_reducible exact Below.refl _ _ | with_reducible refine Below.drew ?_))) (by (first | (simp; done) | (simp; omega) | omega)) hb)
        clear hb hz
        obtain ⟨c0, c1, c2, c3, c4, c5, c6, c7⟩ := box8 HG0.out
        obtain ⟨r0, r1⟩ := box2 HG1.out
        obtain ⟨d0, d1⟩ := box2 HG2.out
        have f1 := box_any HG1.out
        have f2 := box_any HG2.out
        go_wp2_with fail
        refine (HNR.out _).mono ?_
        rintro e w2 ⟨rfl, hb⟩
        have hz := hb.size; (try simp only [World.size_setCell] at hz)
        have hs2 : w.heap.size + 1 + 1 < w2.heap.size := by omega
        replace HG0 := Lib.hid (keep_blk hb HG0.out); replace HG1 := Lib.hid (keep_blk hb HG1.out); replace HG2 := Lib.hid (keep_blk hb HG2.out)
        replace HB := Lib.hid (below_call HB.out HB.out.size hb)
        clear hb hz
        clear c0 c1 c2 c3 c4 c5 c6 c7 r0 r1 d0 d1 f1 f2
        obtain ⟨c0, c1, c2, c3, c4, c5, c6, c7⟩ := box8 HG0.out
        obtain ⟨r0, r1⟩ := box2 HG1.out
        obtain ⟨d0, d1⟩ := box2 HG2.out
        have f1 := box_any HG1.out
        have f2 := box_any HG2.out
        go_wp2_with fail
        refine (HR.out _ HB.out).mono ?_
        rintro e w3 ⟨rfl, hb⟩
        have hz := hb.size; (try simp only [World.size_setCell] at hz)
        have hs3 : w.heap.size + 1 + 1 < w3.heap.size := by omega
        replace HG0 := Lib.hid (keep_blk hb HG0.out); replace HG1 := Lib.hid (keep_blk hb HG1.out); replace HG2 := Lib.hid (keep_blk hb HG2.out)
        replace HB := Lib.hid (below_call HB.out HB.out.size hb)
        clear hb hz
        clear c0 c1 c2 c3 c4 c5 c6 c7 r0 r1 d0 d1 f1 f2
        obtain ⟨c0, c1, c2, c3, c4, c5, c6, c7⟩ := box8 HG0.out
        obtain ⟨r0, r1⟩ := box2 HG1.out
        obtain ⟨d0, d1⟩ := box2 HG2.out
        have f1 := box_any HG1.out
        have f2 := box_any HG2.out
        go_wp2
        refine bodyPost_ret (v := .tuple #[.agg #[.int .i64 (-1), .int .i64 b], .bool true]) ?_ rfl ⟨by rw [HE.out], ?_⟩
        · apply res_span (b := w.heap.size + 1)
          · rfl
          · rfl
          · repeat (first | with_reducible apply block_set | (with_reducible refine set_there ?_ _ (by omega)) | with_reducible exact HG1.out)
          · simp only [List.setIfInBounds_toArray, List.set_cons_zero, List.set_cons_succ]
        · refine HB.out.trans ?_
          (repeat (first | with_reducible refine bset ?_ _ (by omega) | with_reducible refine ball ?_ _ (by first | exact Nat.le_refl _ | (simp only [World.size_alloc, World.size_setCell]; omega)) | with_reducible exact Below.refl _ _ | with_reducible refine Below.drew ?_))
  | false =>
    replace HNL := Lib.hid (fun W => (HNL.out W).mono fun _ _ h => Tell.to h hnl)
    have hx := eqN_f.1 hnl; clear hnl
    have el := left_id (l := l) hx
    obtain ⟨a, ha⟩ : ∃ a, a = atOf l x.l := ⟨_, rfl⟩
    rw [← ha] at HA ha0 ha1 el
    by_cases h1 : a < 0
    · have HE := Lib.hid (show spanV l x = .tuple #[.agg #[.int .i64 0, .int .i64 0], .bool false] from HN.out (by rw [el]; exact fun h => h.1 ⟨h1, hx⟩))
      clear hx el ha
      go_enter Try.func154, Try.ntmps154
      go_wp2_with fail
      refine (HNL.out _).mono ?_
      rintro e w1 ⟨rfl, hb⟩
      have hz := hb.size; simp only [World.size_alloc] at hz
      have hs : w.heap.size + 1 + 1 < w1.heap.size := by omega
      have HG0 := Lib.hid (keep_blk hb (alloc_there (alloc_there (heap_alloc_new w _) _) _))
      have HG1 := Lib.hid (keep_blk hb (alloc_there (heap_two w _ _) _))
      have HG2 := Lib.hid (keep_blk hb (heap_three w _ _ _))
      have HB := Lib.hid (show Below w.heap.size w w1 from below_call (by (repeat (first | with_reducible refine bset ?_ _ (by omega) | with_reducible refine ball ?_ _ (by first | exact Nat.le_refl _ | (simp only [World.size_alloc, World.size_setCell]; omega)) | with_reducible exact Below.refl _ _ | with_reducible refine Below.drew ?_))) (by (first | (simp; done) | (simp; omega) | omega)) hb)
      clear hb hz
      obtain ⟨c0, c1, c2, c3, c4, c5, c6, c7⟩ := box8 HG0.out
      obtain ⟨r0, r1⟩ := box2 HG1.out
      obtain ⟨d0, d1⟩ := box2 HG2.out
      have f1 := box_any HG1.out
      have f2 := box_any HG2.out
      go_wp2_with fail
      refine (HA.out _ HB.out).mono ?_
      rintro e w2 ⟨rfl, hb⟩
      have hz := hb.size; (try simp only [World.size_setCell] at hz)
      have hs2 : w.heap.size + 1 + 1 < w2.heap.size := by omega
      replace HG0 := Lib.hid (keep_blk hb HG0.out); replace HG1 := Lib.hid (keep_blk hb HG1.out); replace HG2 := Lib.hid (keep_blk hb HG2.out)
      replace HB := Lib.hid (below_call HB.out HB.out.size hb)
      clear hb hz
      clear c0 c1 c2 c3 c4 c5 c6 c7 r0 r1 d0 d1 f1 f2
      obtain ⟨c0, c1, c2, c3, c4, c5, c6, c7⟩ := box8 HG0.out
      obtain ⟨r0, r1⟩ := box2 HG1.out
      obtain ⟨d0, d1⟩ := box2 HG2.out
      have f1 := box_any HG1.out
      have f2 := box_any HG2.out
      go_wp2
      refine bodyPost_ret (v := .tuple #[.agg #[.int .i64 0, .int .i64 0], .bool false]) ?_ rfl ⟨by rw [HE.out], ?_⟩
      · apply res_span (b := w.heap.size + 1)
        · rfl
        · rfl
        · repeat (first | with_reducible apply block_set | (with_reducible refine set_there ?_ _ (by omega)) | with_reducible exact HG1.out)
        · simp only [List.setIfInBounds_toArray, List.set_cons_zero, List.set_cons_succ]
      · refine HB.out.trans ?_
        (repeat (first | with_reducible refine bset ?_ _ (by omega) | with_reducible refine ball ?_ _ (by first | exact Nat.le_refl _ | (simp only [World.size_alloc, World.size_setCell]; omega)) | with_reducible exact Below.refl _ _ | with_reducible refine Below.drew ?_))
    · cases hnr : eqN x.r no with
      | true =>
        replace HNR := Lib.hid (fun W => (HNR.out W).mono fun _ _ h => Tell.to h hnr)
        have hy := eqN_t.1 hnr; clear hnr
        have er := right_no (l := l) hy
        have HE := Lib.hid (show spanV l x = .tuple #[.agg #[.int .i64 a, .int .i64 l.length], .bool true] by rw [HY.out ⟨fun h => h1 (by rw [← el]; exact h.1), by omega⟩, el, er])
        clear hx hy el er ha
        go_enter Try.func154, Try.ntmps154
        go_wp2_with fail
        refine (HNL.out _).mono ?_
        rintro e w1 ⟨rfl, hb⟩
        have hz := hb.size; simp only [World.size_alloc] at hz
        have hs : w.heap.size + 1 + 1 < w1.heap.size := by omega
        have HG0 := Lib.hid (keep_blk hb (alloc_there (alloc_there (heap_alloc_new w _) _) _))
        have HG1 := Lib.hid (keep_blk hb (alloc_there (heap_two w _ _) _))
        have HG2 := Lib.hid (keep_blk hb (heap_three w _ _ _))
        have HB := Lib.hid (show Below w.heap.size w w1 from below_call (by (repeat (first | with_reducible refine bset ?_ _ (by omega) | with_reducible refine ball ?_ _ (by first | exact Nat.le_refl _ | (simp only [World.size_alloc, World.size_setCell]; omega)) | with_reducible exact Below.refl _ _ | with_reducible refine Below.drew ?_))) (by (first | (simp; done) | (simp; omega) | omega)) hb)
        clear hb hz
        obtain ⟨c0, c1, c2, c3, c4, c5, c6, c7⟩ := box8 HG0.out
        obtain ⟨r0, r1⟩ := box2 HG1.out
        obtain ⟨d0, d1⟩ := box2 HG2.out
        have f1 := box_any HG1.out
        have f2 := box_any HG2.out
        go_wp2_with fail
        refine (HA.out _ HB.out).mono ?_
        rintro e w2 ⟨rfl, hb⟩
        have hz := hb.size; (try simp only [World.size_setCell] at hz)
        have hs2 : w.heap.size + 1 + 1 < w2.heap.size := by omega
        replace HG0 := Lib.hid (keep_blk hb HG0.out); replace HG1 := Lib.hid (keep_blk hb HG1.out); replace HG2 := Lib.hid (keep_blk hb HG2.out)
        replace HB := Lib.hid (below_call HB.out HB.out.size hb)
        clear hb hz
        clear c0 c1 c2 c3 c4 c5 c6 c7 r0 r1 d0 d1 f1 f2
        obtain ⟨c0, c1, c2, c3, c4, c5, c6, c7⟩ := box8 HG0.out
        obtain ⟨r0, r1⟩ := box2 HG1.out
        obtain ⟨d0, d1⟩ := box2 HG2.out
        have f1 := box_any HG1.out
        have f2 := box_any HG2.out
        go_wp2_with fail
        refine (HNR.out _).mono ?_
        rintro e w3 ⟨rfl, hb⟩
        have hz := hb.size; (try simp only [World.size_setCell] at hz)
        have hs3 : w.heap.size + 1 + 1 < w3.heap.size := by omega
        replace HG0 := Lib.hid (keep_blk hb (set_there HG0.out _ (by omega))); replace HG1 := Lib.hid (keep_blk hb (set_there HG1.out _ (by omega))); replace HG2 := Lib.hid (keep_blk hb (block_set HG2.out 0 _))
        replace HB := Lib.hid (below_call (bset HB.out _ (by omega)) (by simp only [World.size_setCell]; omega) hb)
        clear hb hz
        clear c0 c1 c2 c3 c4 c5 c6 c7 r0 r1 d0 d1 f1 f2
        obtain ⟨c0, c1, c2, c3, c4, c5, c6, c7⟩ := box8 HG0.out
        obtain ⟨r0, r1⟩ := box2 HG1.out
        obtain ⟨d0, d1⟩ := box2 HG2.out
        have f1 := box_any HG1.out
        have f2 := box_any HG2.out
        go_wp2
        refine bodyPost_ret (v := .tuple #[.agg #[.int .i64 a, .int .i64 l.length], .bool true]) ?_ rfl ⟨by rw [HE.out], ?_⟩
        · apply res_span (b := w.heap.size + 1)
          · rfl
          · rfl
          · repeat (first | with_reducible apply block_set | (with_reducible refine set_there ?_ _ (by omega)) | with_reducible exact HG1.out)
          · simp only [List.setIfInBounds_toArray, List.set_cons_zero, List.set_cons_succ]
        · refine HB.out.trans ?_
          (repeat (first | with_reducible refine bset ?_ _ (by omega) | with_reducible refine ball ?_ _ (by first | exact Nat.le_refl _ | (simp only [World.size_alloc, World.size_setCell]; omega)) | with_reducible exact Below.refl _ _ | with_reducible refine Below.drew ?_))
      | false =>
        replace HNR := Lib.hid (fun W => (HNR.out W).mono fun _ _ h => Tell.to h hnr)
        have hy := eqN_f.1 hnr; clear hnr
        have er := right_id (l := l) hy
        obtain ⟨b, hb⟩ : ∃ b, b = atOf l x.r := ⟨_, rfl⟩
        rw [← hb] at HR hr0 hr1 er
        by_cases h2 : b < 0
        · have HE := Lib.hid (show spanV l x = .tuple #[.agg #[.int .i64 0, .int .i64 0], .bool false] from HN.out (by rw [er]; exact fun h => h.2 h2))
          clear hx hy el er hb ha
          go_enter Try.func154, Try.ntmps154
          go_wp2_with fail
          refine (HNL.out _).mono ?_
          rintro e w1 ⟨rfl, hb⟩
          have hz := hb.size; simp only [World.size_alloc] at hz
          have hs : w.heap.size + 1 + 1 < w1.heap.size := by omega
          have HG0 := Lib.hid (keep_blk hb (alloc_there (alloc_there (heap_alloc_new w _) _) _))
          have HG1 := Lib.hid (keep_blk hb (alloc_there (heap_two w _ _) _))
          have HG2 := Lib.hid (keep_blk hb (heap_three w _ _ _))
          have HB := Lib.hid (show Below w.heap.size w w1 from below_call (by (repeat (first | with_reducible refine bset ?_ _ (by omega) | with_reducible refine ball ?_ _ (by first | exact Nat.le_refl _ | (simp only [World.size_alloc, World.size_setCell]; omega)) | with_reducible exact Below.refl _ _ | with_reducible refine Below.drew ?_))) (by (first | (simp; done) | (simp; omega) | omega)) hb)
          clear hb hz
          obtain ⟨c0, c1, c2, c3, c4, c5, c6, c7⟩ := box8 HG0.out
          obtain ⟨r0, r1⟩ := box2 HG1.out
          obtain ⟨d0, d1⟩ := box2 HG2.out
          have f1 := box_any HG1.out
          have f2 := box_any HG2.out
          go_wp2_with fail
          refine (HA.out _ HB.out).mono ?_
          rintro e w2 ⟨rfl, hb⟩
          have hz := hb.size; (try simp only [World.size_setCell] at hz)
          have hs2 : w.heap.size + 1 + 1 < w2.heap.size := by omega
          replace HG0 := Lib.hid (keep_blk hb HG0.out); replace HG1 := Lib.hid (keep_blk hb HG1.out); replace HG2 := Lib.hid (keep_blk hb HG2.out)
          replace HB := Lib.hid (below_call HB.out HB.out.size hb)
          clear hb hz
          clear c0 c1 c2 c3 c4 c5 c6 c7 r0 r1 d0 d1 f1 f2
          obtain ⟨c0, c1, c2, c3, c4, c5, c6, c7⟩ := box8 HG0.out
          obtain ⟨r0, r1⟩ := box2 HG1.out
          obtain ⟨d0, d1⟩ := box2 HG2.out
          have f1 := box_any HG1.out
          have f2 := box_any HG2.out
          go_wp2_with fail
          refine (HNR.out _).mono ?_
          rintro e w3 ⟨rfl, hb⟩
          have hz := hb.size; (try simp only [World.size_setCell] at hz)
          have hs3 : w.heap.size + 1 + 1 < w3.heap.size := by omega
          replace HG0 := Lib.hid (keep_blk hb (set_there HG0.out _ (by omega))); replace HG1 := Lib.hid (keep_blk hb (set_there HG1.out _ (by omega))); replace HG2 := Lib.hid (keep_blk hb (block_set HG2.out 0 _))
          replace HB := Lib.hid (below_call (bset HB.out _ (by omega)) (by simp only [World.size_setCell]; omega) hb)
          clear hb hz
          clear c0 c1 c2 c3 c4 c5 c6 c7 r0 r1 d0 d1 f1 f2
          obtain ⟨c0, c1, c2, c3, c4, c5, c6, c7⟩ := box8 HG0.out
          obtain ⟨r0, r1⟩ := box2 HG1.out
          obtain ⟨d0, d1⟩ := box2 HG2.out
          have f1 := box_any HG1.out
          have f2 := box_any HG2.out
          go_wp2_with fail
          refine (HR.out _ HB.out).mono ?_
          rintro e w4 ⟨rfl, hb⟩
          have hz := hb.size; (try simp only [World.size_setCell] at hz)
          have hs4 : w.heap.size + 1 + 1 < w4.heap.size := by omega
          replace HG0 := Lib.hid (keep_blk hb HG0.out); replace HG1 := Lib.hid (keep_blk hb HG1.out); replace HG2 := Lib.hid (keep_blk hb HG2.out)
          replace HB := Lib.hid (below_call HB.out HB.out.size hb)
          clear hb hz
          clear c0 c1 c2 c3 c4 c5 c6 c7 r0 r1 d0 d1 f1 f2
          obtain ⟨c0, c1, c2, c3, c4, c5, c6, c7⟩ := box8 HG0.out
          obtain ⟨r0, r1⟩ := box2 HG1.out
          obtain ⟨d0, d1⟩ := box2 HG2.out
          have f1 := box_any HG1.out
          have f2 := box_any HG2.out
          go_wp2
          refine bodyPost_ret (v := .tuple #[.agg #[.int .i64 0, .int .i64 0], .bool false]) ?_ rfl ⟨by rw [HE.out], ?_⟩
          · apply res_span (b := w.heap.size + 1)
            · rfl
            · rfl
            · repeat (first | with_reducible apply block_set | (with_reducible refine set_there ?_ _ (by omega)) | with_reducible exact HG1.out)
            · simp only [List.setIfInBounds_toArray, List.set_cons_zero, List.set_cons_succ]
          · refine HB.out.trans ?_
            (repeat (first | with_reducible refine bset ?_ _ (by omega) | with_reducible refine ball ?_ _ (by first | exact Nat.le_refl _ | (simp only [World.size_alloc, World.size_setCell]; omega)) | with_reducible exact Below.refl _ _ | with_reducible refine Below.drew ?_))
        · have HE := Lib.hid (show spanV l x = .tuple #[.agg #[.int .i64 a, .int .i64 b], .bool true] by rw [HY.out ⟨fun h => h1 (by rw [← el]; exact h.1), by rw [er]; exact h2⟩, el, er])
          clear hx hy el er hb ha
          go_enter Try.func154, Try.ntmps154
          go_wp2_with fail
          refine (HNL.out _).mono ?_
          rintro e w1 ⟨rfl, hb⟩
          have hz := hb.size; simp only [World.size_alloc] at hz
          have hs : w.heap.size + 1 + 1 < w1.heap.size := by omega
          have HG0 := Lib.hid (keep_blk hb (alloc_there (alloc_there (heap_alloc_new w _) _) _))
          have HG1 := Lib.hid (keep_blk hb (alloc_there (heap_two w _ _) _))
          have HG2 := Lib.hid (keep_blk hb (heap_three w _ _ _))
          have HB := Lib.hid (show Below w.heap.size w w1 from below_call (by (repeat (first | with_reducible refine bset ?_ _ (by omega) | with_reducible refine ball ?_ _ (by first | exact Nat.le_refl _ | (simp only [World.size_alloc, World.size_setCell]; omega)) | with_reducible exact Below.refl _ _ | with_reducible refine Below.drew ?_))) (by (first | (simp; done) | (simp; omega) | omega)) hb)
          clear hb hz
          obtain ⟨c0, c1, c2, c3, c4, c5, c6, c7⟩ := box8 HG0.out
          obtain ⟨r0, r1⟩ := box2 HG1.out
          obtain ⟨d0, d1⟩ := box2 HG2.out
          have f1 := box_any HG1.out
          have f2 := box_any HG2.out
          go_wp2_with fail
          refine (HA.out _ HB.out).mono ?_
          rintro e w2 ⟨rfl, hb⟩
          have hz := hb.size; (try simp only [World.size_setCell] at hz)
          have hs2 : w.heap.size + 1 + 1 < w2.heap.size := by omega
          replace HG0 := Lib.hid (keep_blk hb HG0.out); replace HG1 := Lib.hid (keep_blk hb HG1.out); replace HG2 := Lib.hid (keep_blk hb HG2.out)
          replace HB := Lib.hid (below_call HB.out HB.out.size hb)
          clear hb hz
          clear c0 c1 c2 c3 c4 c5 c6 c7 r0 r1 d0 d1 f1 f2
          obtain ⟨c0, c1, c2, c3, c4, c5, c6, c7⟩ := box8 HG0.out
          obtain ⟨r0, r1⟩ := box2 HG1.out
          obtain ⟨d0, d1⟩ := box2 HG2.out
          have f1 := box_any HG1.out
          have f2 := box_any HG2.out
          go_wp2_with fail
          refine (HNR.out _).mono ?_
          rintro e w3 ⟨rfl, hb⟩
          have hz := hb.size; (try simp only [World.size_setCell] at hz)
          have hs3 : w.heap.size + 1 + 1 < w3.heap.size := by omega
          replace HG0 := Lib.hid (keep_blk hb (set_there HG0.out _ (by omega))); replace HG1 := Lib.hid (keep_blk hb (set_there HG1.out _ (by omega))); replace HG2 := Lib.hid (keep_blk hb (block_set HG2.out 0 _))
          replace HB := Lib.hid (below_call (bset HB.out _ (by omega)) (by simp only [World.size_setCell]; omega) hb)
          clear hb hz
          clear c0 c1 c2 c3 c4 c5 c6 c7 r0 r1 d0 d1 f1 f2
          obtain ⟨c0, c1, c2, c3, c4, c5, c6, c7⟩ := box8 HG0.out
          obtain ⟨r0, r1⟩ := box2 HG1.out
          obtain ⟨d0, d1⟩ := box2 HG2.out
          have f1 := box_any HG1.out
          have f2 := box_any HG2.out
          go_wp2_with fail
          refine (HR.out _ HB.out).mono ?_
          rintro e w4 ⟨rfl, hb⟩
          have hz := hb.size; (try simp only [World.size_setCell] at hz)
          have hs4 : w.heap.size + 1 + 1 < w4.heap.size := by omega
          replace HG0 := Lib.hid (keep_blk hb HG0.out); replace HG1 := Lib.hid (keep_blk hb HG1.out); replace HG2 := Lib.hid (keep_blk hb HG2.out)
          replace HB := Lib.hid (below_call HB.out HB.out.size hb)
          clear hb hz
          clear c0 c1 c2 c3 c4 c5 c6 c7 r0 r1 d0 d1 f1 f2
          obtain ⟨c0, c1, c2, c3, c4, c5, c6, c7⟩ := box8 HG0.out
          obtain ⟨r0, r1⟩ := box2 HG1.out
          obtain ⟨d0, d1⟩ := box2 HG2.out
          have f1 := box_any HG1.out
          have f2 := box_any HG2.out
          go_wp2
          refine bodyPost_ret (v := .tuple #[.agg #[.int .i64 a, .int .i64 b], .bool true]) ?_ rfl ⟨by rw [HE.out], ?_⟩
          · apply res_span (b := w.heap.size + 1)
            · rfl
            · rfl
            · repeat (first | with_reducible apply block_set | (with_reducible refine set_there ?_ _ (by omega)) | with_reducible exact HG1.out)
            · simp only [List.setIfInBounds_toArray, List.set_cons_zero, List.set_cons_succ]
          · refine HB.out.trans ?_
            (repeat (first | with_reducible refine bset ?_ _ (by omega) | with_reducible refine ball ?_ _ (by first | exact Nat.le_refl _ | (simp only [World.size_alloc, World.size_setCell]; omega)) | with_reducible exact Below.refl _ _ | with_reducible refine Below.drew ?_))

end Go.Proofs.Ytghiipoeedfkhaa
