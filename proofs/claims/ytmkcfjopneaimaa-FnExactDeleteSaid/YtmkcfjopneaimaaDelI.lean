/-
  Delete of the program.
-/
import Derived.Test.YtmkcfjopneaimaaGone
import Derived.Test.YtmkcfjopneaimaaCopyD
import Derived.Test.YtmkcfjopneaimaaMarkC
namespace Go.Proofs.Ytmkcfjopneaimaa
set_option linter.unusedSimpArgs false
set_option linter.unusedVariables false
open Go.ChangeShapes Go.WideShapes Go.ChangeAt Go.RowKit

noncomputable def deleteO (d : Dc) (p m : Int) : Oc := if docB d = true ∧ 1 ≤ m ∧ m ≤ 60 then (if 0 ≤ p ∧ p + m ≤ ((liveI d.X).length : Int) then ⟨⟨goneJ d.X p.toNat m.toNat, d.P, d.H⟩, 0⟩ else illOc 8) else illOc 1
theorem delete_form {d : Dc} {p m : Int} (h : ¬ (docB d = true ∧ 1 ≤ m ∧ m ≤ 60)) : deleteO d p m = illOc 1 := if_neg h
theorem delete_range {d : Dc} {p m : Int} (h : docB d = true ∧ 1 ≤ m ∧ m ≤ 60) (h2 : ¬ (0 ≤ p ∧ p + m ≤ ((liveI d.X).length : Int))) : deleteO d p m = illOc 8 := by unfold deleteO; rw [if_pos h, if_neg h2]
theorem delete_good {d : Dc} {p m : Int} (h : docB d = true ∧ 1 ≤ m ∧ m ≤ 60) (h2 : 0 ≤ p ∧ p + m ≤ ((liveI d.X).length : Int)) : deleteO d p m = ⟨⟨goneJ d.X p.toNat m.toNat, d.P, d.H⟩, 0⟩ := by unfold deleteO; rw [if_pos h, if_pos h2]
theorem res_out {W : World} {b : Nat} {cs : Array Value} {a0 a1 a2 a3 : Value} (f : Func) (hf : f.results = #[.cell 6 53]) (tm : Array Value) (ht : tm[6]? = some (.pointer (some ⟨b, 0, none⟩))) (hg : W.heap[b]? = some (.cells cs 53 (0, 0))) (he : cs = #[a0, a1, a2, a3]) :
    (results f tm).run Try.prog W = .ok (.agg #[a0, a1, a2, a3]) W := by
  subst he
  obtain ⟨c0, c1, c2, c3⟩ := box4c hg
  simp [results, hf, go_sem, ht, c0, c1, c2, c3]
theorem wait_ones {d : Dc} (h : DocP d) (x : Im) (hx : x ∈ d.P) : x.t.size = 1 := by
  obtain ⟨i, hi, rfl⟩ := List.getElem_of_mem hx
  exact (h.2.2.2.1 i hi hi).1.2.2.2.1.1
theorem wait_unlike {d : Dc} (h : DocP d) : ∀ x ∈ d.X, ∀ y ∈ d.P, x.i ≠ y.i := by
  intro x hx y hy e
  obtain ⟨i, hi, rfl⟩ := List.getElem_of_mem hy
  have h0 := (h.2.2.2.1 i hi hi).2.2.1
  rcases at_cases d.X d.P[i].i with ⟨k, hk, h1, _⟩ | ⟨_, h1⟩
  · exact h0 (by rw [h1]; omega)
  · obtain ⟨j, hj, rfl⟩ := List.getElem_of_mem hx
    have h2 := h1 j hj hj
    rw [e] at h2
    simp [eqN] at h2
theorem own_cap {w : World} {base : Nat} {e : TypeId} {k n c : Nat} {A : Option Addr} {xs : List Value} (h : w.ownsRow base e k (.slice A n c) n xs) (hn : 0 < n) : n ≤ c ∧ c ≤ maxLen := by
  rcases h.2 with ⟨_, h0⟩ | ⟨g, cap, cur, hv, _, _, h1, h2, _⟩
  · omega
  · simp only [Value.slice.injEq, true_and] at hv
    obtain ⟨_, rfl⟩ := hv
    exact ⟨h1, h2⟩
theorem encI_at : ∀ (l : List Int) (k : Nat), (l.flatMap encI)[k]? = l[k]?.map (fun x => Value.int .i64 x)
  | [], k => by simp
  | x :: l, 0 => by simp [encI]
  | x :: l, k + 1 => by simp [encI, ← encI_at l k]
theorem own_int {w : World} {base g c : Nat} {l : List Int} (h : Ow w base 3 1 encI (.slice (some ⟨g, 0, none⟩) l.length c) l) (k : Nat) (hk : k < l.length) : w.cell? ⟨g, k, none⟩ = some (.int .i64 l[k]) := by
  have h2 : w.ownsRow base 3 1 (.slice (some ⟨g, 0, none⟩) l.length c) l.length (l.flatMap encI) := h
  rw [h2.cellAt k (by omega), encI_at, List.getElem?_eq_getElem hk]
  rfl
/-- A row that another row's store leaves as it was. -/
theorem own_beside {α : Type} {w : World} {base g j k : Nat} {E : TypeId} {enc : α → List Value} {v : Value} {l : List α} (h : Ow w base E k enc v l) (hp : 0 < l.length → v.ownBlock ≠ some g) (u : Value) : Ow (w.setCell ⟨g, j, none⟩ u) base E k enc v l := by
  rcases Nat.eq_zero_or_pos l.length with h0 | h0
  · obtain rfl : l = [] := List.length_eq_zero_iff.1 h0
    refine ⟨h.1, ?_⟩
    rcases h.2 with hn | ⟨q, cap, cur, rfl, hb, hgg, rest⟩
    · exact .inl hn
    · by_cases hq : q = g
      · subst hq
        have h2 := (World.ownsRow.stored h j u).1
        exact h2.2
      · exact .inr ⟨q, cap, cur, rfl, hb, by rw [Below.heap_setCell _ _ _ _ hq]; exact hgg, rest⟩
  · exact own_aside h (fun q hq e => hp h0 (by rw [hq, e])) u

set_option maxRecDepth 100000 in
set_option maxHeartbeats 4000000 in
theorem impl_delete (v : Value) (d : Dc) (p m : Int) (w : World) (hv : DcAt w w.heap.size v d) (hf : Fit d) (hp0 : -9223372036854775808 ≤ p) (hp1 : p ≤ 9223372036854775807) :
    Calls Try.prog 33 #[v, .int .i64 p, .int .i64 m] w (OwnsOc w (deleteO d p m)) := by
  have HD := Lib.hid (fun W (hb : Below w.heap.size w W) => impl_docF v d W ((hv.below hb).more hb.size) hf)
  have HAN := Lib.hid (fun (h1 : d.X.length ≤ 1048576) (h2 : d.P.length ≤ 1048576) (h3 : d.H.length ≤ 1048576) (h4 : ∀ x ∈ d.X, x.t.size ≤ 281474976710656) (h5 : ∀ x ∈ d.P, x.t.size ≤ 281474976710656) W (hb : Below w.heap.size w W) => impl_anew v d W ((hv.below hb).more hb.size) h1 h2 h3 h4 h5)
  obtain ⟨vx, vp, vh, rfl, hx, hp, hh⟩ := hv
  have HLV := Lib.hid (fun (h : d.X.length ≤ 1048576) W (hb : Below w.heap.size w W) => impl_live vx d.X W ((hx.below hb).more hb.size) h)
  obtain ⟨A1, k1, rfl⟩ := hx.form; obtain ⟨A2, k2, rfl⟩ := hp.form; obtain ⟨A3, k3, rfl⟩ := hh.form
  clear hx hp hh hf
  have hL := ((Lg.start w).alloc (.cells #[.slice A1 d.X.length k1, .slice A2 d.P.length k2, .slice A3 d.H.length k3] 42)).alloc (.cells #[.slice none 0 0, .slice none 0 0, .slice none 0 0, .int .i64 0] 53)
  simp only [World.size_alloc] at hL
  have HL := Lib.hid hL; clear hL
  cases hd : docB d with
  | false =>
    replace HD := Lib.hid (fun W hb => (HD.out W hb).mono fun _ _ h => Tell.to h hd)
    rw [delete_form (by rw [hd]; exact fun h => Bool.false_ne_true h.1)]
    clear hd
    go_enter Try.func33, Try.ntmps33
    go_wp2_with fail
    refine (HD.out _ HL.out.bel).mono ?_
    rintro e w1 ⟨rfl, hb1⟩
    replace HL := Lib.hid (HL.out.lift hb1); clear hb1
    obtain ⟨x0, x1, x2⟩ := box3 (HL.out.blk _ (List.mem_cons_of_mem _ List.mem_cons_self))
    obtain ⟨y0, y1, y2, y3⟩ := box4c (HL.out.blk _ List.mem_cons_self)
    have f1 := box_any (HL.out.blk _ List.mem_cons_self)
    have HBX := Lib.hid (HL.out.blk _ List.mem_cons_self)
    go_wp2
    refine bodyPost_ret (v := .agg #[.slice none 0 0, .slice none 0 0, .slice none 0 0, .int .i64 1]) ?_ rfl ⟨_, rfl, oc_ill _ _ 1, ?_⟩
    · apply res_out (b := w.heap.size + 1) _ (by kernel_rfl)
      · rfl
      · repeat (first | with_reducible apply block_set | with_reducible exact HBX.out)
      · simp only [List.setIfInBounds_toArray, List.set_cons_zero, List.set_cons_succ]
    · refine HL.out.bel.trans ?_
      (repeat (first | with_reducible refine bset ?_ _ (by omega) | with_reducible refine ball ?_ _ (by first | exact Nat.le_refl _ | (simp only [World.size_alloc, World.size_setCell]; omega)) | with_reducible exact Below.refl _ _ | with_reducible refine Below.drew ?_))
  | true =>
    replace HD := Lib.hid (fun W hb => (HD.out W hb).mono fun _ _ h => Tell.to h hd)
    have hdp := (docB_iff d).1 hd
    have hX60 : d.X.length ≤ 60 := hdp.1.1
    have hP20 := hdp.2.1
    have hH20 := hdp.2.2.1
    by_cases h1 : m < 1
    · rw [delete_form (fun h => by omega)]
      clear hd hdp
      go_enter Try.func33, Try.ntmps33
      go_wp2_with fail
      refine (HD.out _ HL.out.bel).mono ?_
      rintro e w1 ⟨rfl, hb1⟩
      replace HL := Lib.hid (HL.out.lift hb1); clear hb1
      obtain ⟨x0, x1, x2⟩ := box3 (HL.out.blk _ (List.mem_cons_of_mem _ List.mem_cons_self))
      obtain ⟨y0, y1, y2, y3⟩ := box4c (HL.out.blk _ List.mem_cons_self)
      have f1 := box_any (HL.out.blk _ List.mem_cons_self)
      have HBX := Lib.hid (HL.out.blk _ List.mem_cons_self)
      go_wp2
      refine bodyPost_ret (v := .agg #[.slice none 0 0, .slice none 0 0, .slice none 0 0, .int .i64 1]) ?_ rfl ⟨_, rfl, oc_ill _ _ 1, ?_⟩
      · apply res_out (b := w.heap.size + 1) _ (by kernel_rfl)
        · rfl
        · repeat (first | with_reducible apply block_set | with_reducible exact HBX.out)
        · simp only [List.setIfInBounds_toArray, List.set_cons_zero, List.set_cons_succ]
      · refine HL.out.bel.trans ?_
        (repeat (first | with_reducible refine bset ?_ _ (by omega) | with_reducible refine ball ?_ _ (by first | exact Nat.le_refl _ | (simp only [World.size_alloc, World.size_setCell]; omega)) | with_reducible exact Below.refl _ _ | with_reducible refine Below.drew ?_))
    by_cases h2 : 60 < m
    · rw [delete_form (fun h => by omega)]
      clear hd hdp
      go_enter Try.func33, Try.ntmps33
      go_wp2_with fail
      refine (HD.out _ HL.out.bel).mono ?_
      rintro e w1 ⟨rfl, hb1⟩
      replace HL := Lib.hid (HL.out.lift hb1); clear hb1
      obtain ⟨x0, x1, x2⟩ := box3 (HL.out.blk _ (List.mem_cons_of_mem _ List.mem_cons_self))
      obtain ⟨y0, y1, y2, y3⟩ := box4c (HL.out.blk _ List.mem_cons_self)
      have f1 := box_any (HL.out.blk _ List.mem_cons_self)
      have HBX := Lib.hid (HL.out.blk _ List.mem_cons_self)
      go_wp2
      refine bodyPost_ret (v := .agg #[.slice none 0 0, .slice none 0 0, .slice none 0 0, .int .i64 1]) ?_ rfl ⟨_, rfl, oc_ill _ _ 1, ?_⟩
      · apply res_out (b := w.heap.size + 1) _ (by kernel_rfl)
        · rfl
        · repeat (first | with_reducible apply block_set | with_reducible exact HBX.out)
        · simp only [List.setIfInBounds_toArray, List.set_cons_zero, List.set_cons_succ]
      · refine HL.out.bel.trans ?_
        (repeat (first | with_reducible refine bset ?_ _ (by omega) | with_reducible refine ball ?_ _ (by first | exact Nat.le_refl _ | (simp only [World.size_alloc, World.size_setCell]; omega)) | with_reducible exact Below.refl _ _ | with_reducible refine Below.drew ?_))
    have hlen := liveI_len d.X
    replace HLV := Lib.hid (HLV.out (by omega))
    by_cases h3 : p < 0
    · rw [delete_range ⟨hd, by omega, by omega⟩ (fun h => by omega)]
      clear hd hdp
      go_enter Try.func33, Try.ntmps33
      go_wp2_with fail
      refine (HD.out _ HL.out.bel).mono ?_
      rintro e w1 ⟨rfl, hb1⟩
      replace HL := Lib.hid (HL.out.lift hb1); clear hb1
      obtain ⟨x0, x1, x2⟩ := box3 (HL.out.blk _ (List.mem_cons_of_mem _ List.mem_cons_self))
      obtain ⟨y0, y1, y2, y3⟩ := box4c (HL.out.blk _ List.mem_cons_self)
      have f1 := box_any (HL.out.blk _ List.mem_cons_self)
      go_wp2_with fail
      refine (HLV.out _ HL.out.bel).mono ?_
      rintro e w2 ⟨lv, rfl, ho, hb2⟩
      obtain ⟨AL, cL, rfl⟩ := ho.form
      replace HL := Lib.hid (HL.out.lift hb2)
      have HO := Lib.hid ho; clear ho hb2 x0 x1 x2 y0 y1 y2 y3 f1
      obtain ⟨x0, x1, x2⟩ := box3 (HL.out.blk _ (List.mem_cons_of_mem _ List.mem_cons_self))
      obtain ⟨y0, y1, y2, y3⟩ := box4c (HL.out.blk _ List.mem_cons_self)
      have f1 := box_any (HL.out.blk _ List.mem_cons_self)
      have HBX := Lib.hid (HL.out.blk _ List.mem_cons_self)
      go_wp2
      refine bodyPost_ret (v := .agg #[.slice none 0 0, .slice none 0 0, .slice none 0 0, .int .i64 8]) ?_ rfl ⟨_, rfl, oc_ill _ _ 8, ?_⟩
      · apply res_out (b := w.heap.size + 1) _ (by kernel_rfl)
        · rfl
        · repeat (first | with_reducible apply block_set | with_reducible exact HBX.out)
        · simp only [List.setIfInBounds_toArray, List.set_cons_zero, List.set_cons_succ]
      · refine HL.out.bel.trans ?_
        (repeat (first | with_reducible refine bset ?_ _ (by omega) | with_reducible refine ball ?_ _ (by first | exact Nat.le_refl _ | (simp only [World.size_alloc, World.size_setCell]; omega)) | with_reducible exact Below.refl _ _ | with_reducible refine Below.drew ?_))
    by_cases h4 : ((liveI d.X).length : Int) - m < p
    · rw [delete_range ⟨hd, by omega, by omega⟩ (fun h => by omega)]
      clear hd hdp
      go_enter Try.func33, Try.ntmps33
      go_wp2_with fail
      refine (HD.out _ HL.out.bel).mono ?_
      rintro e w1 ⟨rfl, hb1⟩
      replace HL := Lib.hid (HL.out.lift hb1); clear hb1
      obtain ⟨x0, x1, x2⟩ := box3 (HL.out.blk _ (List.mem_cons_of_mem _ List.mem_cons_self))
      obtain ⟨y0, y1, y2, y3⟩ := box4c (HL.out.blk _ List.mem_cons_self)
      have f1 := box_any (HL.out.blk _ List.mem_cons_self)
      go_wp2_with fail
      refine (HLV.out _ HL.out.bel).mono ?_
      rintro e w2 ⟨lv, rfl, ho, hb2⟩
      obtain ⟨AL, cL, rfl⟩ := ho.form
      replace HL := Lib.hid (HL.out.lift hb2)
      have HO := Lib.hid ho; clear ho hb2 x0 x1 x2 y0 y1 y2 y3 f1
      obtain ⟨x0, x1, x2⟩ := box3 (HL.out.blk _ (List.mem_cons_of_mem _ List.mem_cons_self))
      obtain ⟨y0, y1, y2, y3⟩ := box4c (HL.out.blk _ List.mem_cons_self)
      have f1 := box_any (HL.out.blk _ List.mem_cons_self)
      have HBX := Lib.hid (HL.out.blk _ List.mem_cons_self)
      go_wp2
      refine bodyPost_ret (v := .agg #[.slice none 0 0, .slice none 0 0, .slice none 0 0, .int .i64 8]) ?_ rfl ⟨_, rfl, oc_ill _ _ 8, ?_⟩
      · apply res_out (b := w.heap.size + 1) _ (by kernel_rfl)
        · rfl
        · repeat (first | with_reducible apply block_set | with_reducible exact HBX.out)
        · simp only [List.setIfInBounds_toArray, List.set_cons_zero, List.set_cons_succ]
      · refine HL.out.bel.trans ?_
        (repeat (first | with_reducible refine bset ?_ _ (by omega) | with_reducible refine ball ?_ _ (by first | exact Nat.le_refl _ | (simp only [World.size_alloc, World.size_setCell]; omega)) | with_reducible exact Below.refl _ _ | with_reducible refine Below.drew ?_))
    rw [delete_good ⟨hd, by omega, by omega⟩ (by omega)]
    obtain ⟨a, rfl⟩ : ∃ a : Nat, p = (a : Int) := ⟨p.toNat, by omega⟩
    obtain ⟨n, rfl⟩ : ∃ n : Nat, m = (n : Int) := ⟨m.toNat, by omega⟩
    rw [Int.toNat_natCast, Int.toNat_natCast]
    replace HAN := Lib.hid (HAN.out (by omega) (by omega) (by omega) (fun x hx => by have := items_ones hdp.1 x hx; omega) (fun x hx => by have := wait_ones hdp x hx; omega))
    have HAP := Lib.hid (fun (W : World) (base : Nat) (v : Value) (h : DcOw W base v d) => apart_unlike h (wait_unlike hdp))
    clear hd hdp
    go_enter Try.func33, Try.ntmps33
    go_wp2_with fail
    refine (HD.out _ HL.out.bel).mono ?_
    rintro e w1 ⟨rfl, hb1⟩
    replace HL := Lib.hid (HL.out.lift hb1); clear hb1
    obtain ⟨x0, x1, x2⟩ := box3 (HL.out.blk _ (List.mem_cons_of_mem _ List.mem_cons_self))
    obtain ⟨y0, y1, y2, y3⟩ := box4c (HL.out.blk _ List.mem_cons_self)
    have f1 := box_any (HL.out.blk _ List.mem_cons_self)
    go_wp2_with fail
    refine (HLV.out _ HL.out.bel).mono ?_
    rintro e w2 ⟨lv, rfl, ho, hb2⟩
    obtain ⟨AL, cL, rfl⟩ := ho.form
    replace HL := Lib.hid (HL.out.lift hb2)
    have HO := Lib.hid ho; clear ho hb2 x0 x1 x2 y0 y1 y2 y3 f1
    obtain ⟨x0, x1, x2⟩ := box3 (HL.out.blk _ (List.mem_cons_of_mem _ List.mem_cons_self))
    obtain ⟨y0, y1, y2, y3⟩ := box4c (HL.out.blk _ List.mem_cons_self)
    have f1 := box_any (HL.out.blk _ List.mem_cons_self)
    go_wp2_with fail
    refine (HAN.out _ HL.out.bel).mono ?_
    intro e w3 h3
    obtain ⟨B1, e1, B2, e2, B3, e3, rfl, ho3, hb3⟩ := h3.parts
    have hap := HAP.out _ _ _ ho3 _ _ _ rfl
    obtain ⟨u1, u2, u3, hu, hX, hP, hH⟩ := ho3
    simp only [Value.agg.injEq, Array.mk.injEq, List.cons.injEq, and_true] at hu
    obtain ⟨rfl, rfl, rfl⟩ := hu
    obtain ⟨g, rfl, hg1, hg2⟩ := own_form hX (by omega)
    obtain ⟨q, rfl, hq1, hq2⟩ := own_form HO.out (by omega)
    have hqc := own_cap HO.out (by omega)
    have HPG := Lib.hid (show 0 < d.P.length → (Value.slice B2 d.P.length e2).ownBlock ≠ some g from fun h0 he => hap (by omega) h0 he.symm)
    have HHG := Lib.hid (show 0 < d.H.length → (Value.slice B3 d.H.length e3).ownBlock ≠ some g from fun h0 he => by
      rcases Ow.apart hH hX (by decide) with h | h
      · rw [h] at he; cases he
      · exact h he)
    clear x0 x1 x2 y0 y1 y2 y3 f1 h3 hap
    have HX := Lib.hid hX; have HP := Lib.hid hP; have HH := Lib.hid hH; have HB3 := Lib.hid hb3
    clear hX hP hH hb3
    have hz := HB3.out.size
    have hz1 := block_lt (HL.out.blk _ List.mem_cons_self)
    go_wp2
    go_loopw [46] (fun i wr => ∃ j : Nat, j ≤ n ∧ i = .int .i64 (j : Int) ∧ wr.heap[w3.heap.size]? = some (.cells #[.slice (some ⟨g, 0, none⟩) d.X.length e1, .slice B2 d.P.length e2, .slice B3 d.H.length e3] 42 (0, 0)) ∧ wr.ownsRow w2.heap.size 30 8 (.slice (some ⟨g, 0, none⟩) d.X.length e1) d.X.length ((goneJ d.X a j).flatMap encM) ∧ Ow wr w2.heap.size 30 8 encM (.slice B2 d.P.length e2) d.P ∧ Ow wr w2.heap.size 28 2 encN (.slice B3 d.H.length e3) d.H ∧ Below w2.heap.size w2 wr) (fun i _ => n - (intOf i).toNat)
    case atStart =>
      refine ⟨0, Nat.zero_le _, rfl, ?_, ?_, ?_, ?_, ?_⟩
      · exact heap_alloc_new _ _
      · exact HX.out.lift (ball (Below.refl _ _) _ (Nat.le_refl _))
      · exact HP.out.lift (ball (Below.refl _ _) _ (Nat.le_refl _))
      · exact HH.out.lift (ball (Below.refl _ _) _ (Nat.le_refl _))
      · exact ball HB3.out _ hz
    case round =>
      obtain ⟨j, hj, rfl, hbx, hX, hP, hH, hb⟩ := hrel
      have HBX := Lib.hid hbx; have HXJ := Lib.hid hX; have HPJ := Lib.hid hP; have HHJ := Lib.hid hH; have HB := Lib.hid hb
      by_cases hlt : j < n
      · obtain ⟨p, hp, hlp, hgp⟩ := liveI_at (l := d.X) (k := a + j) (by omega)
        have y0 := own_int (HO.out.lift hb) (a + j) (by omega)
        rw [hlp] at y0
        obtain ⟨x0, x1, x2⟩ := box3 hbx
        obtain ⟨u, p0, f0⟩ := own_cell hX (p * 8 + 7) (by omega)
        have HS := Lib.hid (goneJ_succ (l := d.X) (a := a) (j := j) (by omega))
        rw [hlp, Int.toNat_natCast] at HS
        clear hbx hX hP hH hb hlp hgp
        go_wp2
        go_roundw
        case rel => exact ⟨j + 1, by omega, by go_num, set_there HBX.out _ (by omega), by rw [HS.out, ← setG_enc _ p (by rw [goneJ_len]; exact hp)]; exact (HXJ.out.stored (p * 8 + 7) (.bool true)).1, own_beside HPJ.out HPG.out _, own_beside HHJ.out HHG.out _, bset HB.out _ (by omega)⟩
        case measure => simp [intOf]; omega
      · obtain rfl : j = n := by omega
        have HLR := Lib.hid (HL.out.lift hb)
        obtain ⟨x0, x1, x2⟩ := box3 hbx
        obtain ⟨y0, y1, y2, y3⟩ := box4c (HLR.out.blk _ List.mem_cons_self)
        have f1 := box_any (HLR.out.blk _ List.mem_cons_self)
        have HBZ := Lib.hid (HLR.out.blk _ List.mem_cons_self)
        have HXO := Lib.hid (show Ow wr w2.heap.size 30 8 encM (.slice (some ⟨g, 0, none⟩) d.X.length e1) (goneJ d.X a j) from by unfold Ow; rw [goneJ_len]; exact hX)
        clear hbx hX hP hH hb
        go_wp2
        refine bodyPost_ret (v := .agg #[.slice (some ⟨g, 0, none⟩) d.X.length e1, .slice B2 d.P.length e2, .slice B3 d.H.length e3, .int .i64 0]) ?_ rfl ⟨_, rfl, ⟨_, _, _, rfl, ⟨_, _, _, rfl, ?_, ?_, ?_⟩⟩, ?_⟩
        · apply res_out (b := w.heap.size + 1) _ (by kernel_rfl)
          · rfl
          · repeat (first | with_reducible apply block_set | with_reducible exact HBZ.out)
          · simp only [List.setIfInBounds_toArray, List.set_cons_zero, List.set_cons_succ]
        case refine_5 =>
          refine HLR.out.bel.trans ?_
          (repeat (first | with_reducible refine bset ?_ _ (by omega) | with_reducible refine ball ?_ _ (by first | exact Nat.le_refl _ | (simp only [World.size_alloc, World.size_setCell]; omega)) | with_reducible exact Below.refl _ _ | with_reducible refine Below.drew ?_))
        all_goals
          refine Ow.base (base := w2.heap.size) ?_ (by omega)
          repeat (first | with_reducible refine ofar ?_ _ (by omega) | with_reducible exact HXO.out | with_reducible exact HPJ.out | with_reducible exact HHJ.out)

end Go.Proofs.Ytmkcfjopneaimaa
