/-
  Contracts of the measures of an input: items, names, docs.
-/
import Derived.Test.YtghiipoeedfkhaaProg
import Derived.Test.YtghiipoeedfkhaaDocM
import Derived.Test.YtghiipoeedfkhaaOpenDoc
import Derived.ProofKit
import Derived.WalkSmall
namespace Go.Proofs.Ytghiipoeedfkhaa
set_option linter.unusedSimpArgs false
set_option linter.unusedVariables false
open Go.ChangeShapes Go.WideShapes Go.ChangeAt Go.RowKit

/-- A measure: what is left, or -1; if something is left, Q holds. -/
def SzR (w : World) (Q : Prop) (e : Ending) (w' : World) : Prop := ∃ r : Int, e = .returned (.int .i64 r) ∧ -1 ≤ r ∧ r ≤ 1048576 ∧ (0 ≤ r → Q) ∧ Below w.heap.size w w'

theorem sz_item (x : Im) (left : Int) (w : World) (h0 : 0 ≤ left) (h1 : left ≤ 1048576) (hs : x.t.size ≤ maxLen) :
    Calls Try.prog 128 #[vM x, .int .i64 left] w (SzR w (x.t.size ≤ 1048576)) := by
  unfold maxLen at hs
  by_cases h : left < x.t.size
  · go_enter Try.func128, Try.ntmps128
    go_wp2
    go_ret
    exact ⟨-1, rfl, by omega, by omega, fun h => by omega, by (repeat (first | with_reducible refine bset ?_ _ (by omega) | with_reducible refine ball ?_ _ (by first | exact Nat.le_refl _ | (simp only [World.size_alloc, World.size_setCell]; omega)) | with_reducible exact Below.refl _ _ | with_reducible refine Below.drew ?_))⟩
  · go_enter Try.func128, Try.ntmps128
    go_wp2
    go_ret
    exact ⟨left - x.t.size, rfl, by omega, by omega, fun h => by omega, by (repeat (first | with_reducible refine bset ?_ _ (by omega) | with_reducible refine ball ?_ _ (by first | exact Nat.le_refl _ | (simp only [World.size_alloc, World.size_setCell]; omega)) | with_reducible exact Below.refl _ _ | with_reducible refine Below.drew ?_))⟩

/-- An element of eight cells. -/
theorem Sl.item {w : World} {B : Nat} {v : Value} {l : List Im} (h : Sl w B 8 encM v l) (i : Nat) (hi : i < l.length) :
    ∃ ad c, v = .slice (some ad) l.length c ∧ ad.block < B ∧ w.cell? (ad.add (i * 8)) = some (.int .i64 l[i].i.c) ∧ w.cell? ⟨(ad.add (i * 8)).block, (ad.add (i * 8)).off + 1, none⟩ = some (.int .i64 l[i].i.k) ∧
      w.cell? ⟨(ad.add (i * 8)).block, (ad.add (i * 8)).off + 2, none⟩ = some (.int .i64 l[i].l.c) ∧ w.cell? ⟨(ad.add (i * 8)).block, (ad.add (i * 8)).off + 3, none⟩ = some (.int .i64 l[i].l.k) ∧
      w.cell? ⟨(ad.add (i * 8)).block, (ad.add (i * 8)).off + 4, none⟩ = some (.int .i64 l[i].r.c) ∧ w.cell? ⟨(ad.add (i * 8)).block, (ad.add (i * 8)).off + 5, none⟩ = some (.int .i64 l[i].r.k) ∧
      w.cell? ⟨(ad.add (i * 8)).block, (ad.add (i * 8)).off + 6, none⟩ = some (.string l[i].t) ∧ w.cell? ⟨(ad.add (i * 8)).block, (ad.add (i * 8)).off + 7, none⟩ = some (.bool l[i].g) := by
  obtain ⟨A, c, rfl, h⟩ := h
  obtain ⟨ad, rfl, hb, hc⟩ := h (by omega)
  have hh := hc i l[i] (List.getElem?_eq_getElem hi)
  have h0 := hh 0 _ rfl
  exact ⟨ad, c, rfl, hb, by simpa [Addr.add] using h0, hh 1 _ rfl, hh 2 _ rfl, hh 3 _ rfl, hh 4 _ rfl, hh 5 _ rfl, hh 6 _ rfl, hh 7 _ rfl⟩

set_option maxRecDepth 100000 in
theorem sz_items (v : Value) (L : List Im) (left : Int) (w : World) (B : Nat) (hv : Sl w B 8 encM v L) (hB : B ≤ w.heap.size) (h0 : 0 ≤ left) (h1 : left ≤ 1048576) (hS : L.length ≤ 9223372036854775807) (hs : ∀ x ∈ L, x.t.size ≤ maxLen) :
    Calls Try.prog 65 #[v, .int .i64 left] w (SzR w (L.length ≤ 1048576 ∧ ∀ x ∈ L, x.t.size ≤ 1048576)) := by
  obtain ⟨A, c, rfl⟩ := hv.form
  have HV := Lib.hid hv; have HS := Lib.hid hs
  clear hv hs
  by_cases hl : left < L.length
  · go_enter Try.func65, Try.ntmps65
    go_wp2
    go_ret
    exact ⟨-1, rfl, by omega, by omega, fun h => by omega, Below.refl _ _⟩
  · go_enter Try.func65, Try.ntmps65
    go_wp2
    go_loopw [1, 5] (fun x i wr => ∃ (k : Nat) (l : Int), k ≤ L.length ∧ i = .int .i64 k ∧ x = .int .i64 l ∧ 0 ≤ l ∧ l ≤ 1048576 ∧ (∀ j (hj : j < L.length), j < k → L[j].t.size ≤ 1048576) ∧ Below w.heap.size w wr) (fun _ i _ => L.length - (intOf i).toNat)
    case atStart => exact ⟨0, left - L.length, by omega, rfl, rfl, by omega, by omega, fun j _ hj => by omega, Below.refl _ _⟩
    case round =>
      obtain ⟨k, l, hk, rfl, rfl, l0, l1, hj, hb⟩ := hrel
      have HJ := Lib.hid hj; have HB := Lib.hid hb; clear hj hb
      by_cases hlt : k < L.length
      · obtain ⟨ad, c', e', _, c0, c1, c2, c3, c4, c5, c6, c7⟩ := ((HV.out.more hB).below HB.out).item k hlt
        simp only [Value.slice.injEq, true_and] at e'
        obtain ⟨rfl, rfl⟩ := e'
        have hm := HS.out _ (getElem_mem' L k hlt)
        obtain ⟨t, ht⟩ : ∃ t, t = L[k] := ⟨_, rfl⟩
        rw [← ht] at c0 c1 c2 c3 c4 c5 c6 c7 hm
        have HT := Lib.hid ht; clear ht
        have HM := Lib.hid (fun W => sz_item t l W l0 l1 hm)
        go_wp2_with fail
        refine (HM.out _).mono ?_
        rintro e w1 ⟨r, rfl, r0, r1, hq, hb1⟩
        have HQ := Lib.hid hq; have HB1 := Lib.hid (below_call HB.out HB.out.size hb1)
        clear hq hb1 c0 c1 c2 c3 c4 c5 c6 c7
        by_cases hd : r < 0
        · go_wp2
          go_ret
          exact ⟨-1, rfl, by omega, by omega, fun h => by omega, HB1.out⟩
        · go_wp2
          go_roundw
          case rel => exact ⟨k + 1, r, by omega, by go_num, rfl, by omega, by omega, fun j hj hjk => by
            by_cases e : j = k
            · subst e; rw [← HT.out]; exact HQ.out (by omega)
            · exact HJ.out j hj (by omega), HB1.out⟩
          case measure => simp [intOf]; omega
      · have hks : k = L.length := by omega
        subst hks
        go_wp2
        go_ret
        exact ⟨l, rfl, by omega, by omega, fun _ => ⟨by omega, fun s hs => by
          obtain ⟨j, hj, rfl⟩ := List.getElem_of_mem hs
          exact HJ.out j hj hj⟩, HB.out⟩

theorem sz_ids (v : Value) (L : List Nm) (left : Int) (w : World) (B : Nat) (hv : Sl w B 2 encN v L) (h0 : 0 ≤ left) (h1 : left ≤ 1048576) (hS : L.length ≤ 9223372036854775807) :
    Calls Try.prog 66 #[v, .int .i64 left] w (SzR w (L.length ≤ 1048576)) := by
  obtain ⟨A, c, rfl⟩ := hv.form
  clear hv
  by_cases hl : left < L.length
  · go_enter Try.func66, Try.ntmps66
    go_wp2
    go_ret
    exact ⟨-1, rfl, by omega, by omega, fun h => by omega, Below.refl _ _⟩
  · go_enter Try.func66, Try.ntmps66
    go_wp2
    go_ret
    exact ⟨left - L.length, rfl, by omega, by omega, fun h => by omega, Below.refl _ _⟩

theorem sz_doc (v : Value) (d : Dc) (w : World) (B : Nat) (hv : DcAt w B v d) (hB : B ≤ w.heap.size) (hd : HeldD d) :
    Calls Try.prog 18 #[v, .int .i64 1048576] w (SzR w (SmallD d)) := by
  obtain ⟨vx, vp, vh, rfl, hx, hp, hh⟩ := hv
  obtain ⟨d1, d2, d3, d4, d5, d6⟩ := hd
  have H1 := Lib.hid (fun W (hb : Below w.heap.size w W) => sz_items vx d.X 1048576 W W.heap.size (((hx.more hB).below hb).more hb.size) (Nat.le_refl _) (by omega) (by omega) d1 (fun x h => (d2 x h).2.2.2))
  have H2 := Lib.hid (fun W (hb : Below w.heap.size w W) l l0 l1 => sz_items vp d.P l W W.heap.size (((hp.more hB).below hb).more hb.size) (Nat.le_refl _) l0 l1 d3 (fun x h => (d4 x h).2.2.2))
  have H3 := Lib.hid (fun W (hb : Below w.heap.size w W) l l0 l1 => sz_ids vh d.H l W W.heap.size (((hh.more hB).below hb).more hb.size) l0 l1 d5)
  clear hx hp hh d2 d4 d6
  go_enter Try.func18, Try.ntmps18
  go_wp2_with fail
  refine (H1.out _ (by (repeat (first | with_reducible refine bset ?_ _ (by omega) | with_reducible refine ball ?_ _ (by first | exact Nat.le_refl _ | (simp only [World.size_alloc, World.size_setCell]; omega)) | with_reducible exact Below.refl _ _ | with_reducible refine Below.drew ?_)))).mono ?_
  rintro e w1 ⟨r, rfl, r0, r1, hq, hb1⟩
  obtain ⟨hc, hf⟩ := bcell hb1
  have hz := hb1.size; simp only [World.size_alloc] at hz
  have hz0 : w.heap.size < w1.heap.size := by omega
  have HQ := Lib.hid hq; have HB1 := Lib.hid (below_alloc_call (Below.refl w.heap.size w) (Nat.le_refl _) hb1)
  clear hq hb1
  by_cases h1 : r < 0
  · go_wp2
    go_ret
    exact ⟨-1, rfl, by omega, by omega, fun h => by omega, HB1.out⟩
  · go_wp2_with fail
    refine (H2.out _ HB1.out r (by omega) r1).mono ?_
    rintro e w2 ⟨s, rfl, s0, s1, hq, hb2⟩
    obtain ⟨hc2, hf2⟩ := bcell hb2
    have hz2 := hb2.size
    have hz20 : w.heap.size < w2.heap.size := by omega
    have HQ2 := Lib.hid hq; have HB2 := Lib.hid (below_call HB1.out HB1.out.size hb2)
    clear hq hb2
    by_cases h2 : s < 0
    · go_wp2
      go_ret
      exact ⟨-1, rfl, by omega, by omega, fun h => by omega, HB2.out⟩
    · go_wp2_with fail
      refine (H3.out _ HB2.out s (by omega) s1).mono ?_
      rintro e w3 ⟨u, rfl, u0, u1, hq, hb3⟩
      have HQ3 := Lib.hid hq; have HB3 := Lib.hid (below_call HB2.out HB2.out.size hb3)
      clear hq hb3
      by_cases h3 : u < 0
      · go_wp2
        go_ret
        exact ⟨-1, rfl, by omega, by omega, fun h => by omega, HB3.out⟩
      · go_wp2
        go_ret
        exact ⟨u, rfl, by omega, by omega, fun h => by
          obtain ⟨a, b⟩ := HQ.out (by omega)
          obtain ⟨c, e⟩ := HQ2.out (by omega)
          exact ⟨a, b, c, e, HQ3.out (by omega)⟩, HB3.out⟩

end Go.Proofs.Ytghiipoeedfkhaa
