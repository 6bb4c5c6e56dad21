/-
  The head of an area in its sector: contracts of l03Head and of sealed.
-/
import Derived.Test.YtognfiiplclpaaaDoorPutNum
import Derived.Test.YtognfiiplclpaaaDoorSeal
import Derived.Test.YtognfiiplclpaaaDoorLawAid
import Derived.Deep.RegionHeld3
import Derived.Deep.Cut
import Derived.WalkKit
import Derived.ProofKit
import Derived.Lib.Hide
namespace Go.Proofs.YtognfiiplclpaaaDoor
open Go.ChangeShapes Go.WideShapes Go.ChangeAt Go.RowKit

@[reducible] def numB (n : Int) : ByteArray := ⟨(putNum n).toArray⟩
def headB (g s n : Int) : ByteArray := sealB (catB (catB (numB g) (numB s)) (numB n))
theorem cat_assoc (a b c : ByteArray) : catB a (catB b c) = catB (catB a b) c := by
  unfold catB
  simp [List.append_assoc]
theorem cat_size (a b : ByteArray) : (catB a b).size = a.size + b.size := by
  show (a.data.toList ++ b.data.toList).length = a.data.size + b.data.size
  rw [List.length_append]; rfl
theorem num_size (n : Int) : 1 ≤ (numB n).size ∧ (numB n).size ≤ 10 := by
  have h := putNum_length n
  exact h
theorem head_size (g s n : Int) : (headB g s n).size ≤ 64 := by
  have h1 := (num_size g).2; have h2 := (num_size s).2; have h3 := (num_size n).2
  unfold headB sealB
  rw [cat_size, cat_size, cat_size, sumB_size]
  omega
theorem box3 {w : World} {b : Nat} {x0 x1 x2 : Value} {T : TypeId} (h : w.heap[b]? = some (.cells #[x0, x1, x2] T (0, 0))) : w.cell? ⟨b, 0, none⟩ = some x0 ∧ w.cell? ⟨b, 1, none⟩ = some x1 ∧ w.cell? ⟨b, 2, none⟩ = some x2 := by
  refine ⟨?_, ?_, ?_⟩ <;> simp [World.cell?, h]
def I64 (n : Int) : Prop := -9223372036854775808 ≤ n ∧ n ≤ 9223372036854775807

/-- A number's bytes, as a letter. -/
def NumOf (f : FuncId) (n : Int) (a : ByteArray) : Prop := a = numB n ∧ a.size ≤ 10 ∧ ∀ W : World, Calls Tryd.prog f #[.int .i64 n] W fun e w' => e = .returned (.string a) ∧ Below W.heap.size W w'
theorem numOf_spec (n : Int) (h : I64 n) : ∃ a, NumOf 46 n a := ⟨numB n, rfl, (num_size n).2, fun W => spec_putnum n W h.1 h.2⟩
theorem numOf_impl (n : Int) (h : I64 n) : ∃ a, NumOf 54 n a := ⟨numB n, rfl, (num_size n).2, fun W => impl_putnum n W h.1 h.2⟩

set_option maxRecDepth 100000 in
theorem spec_head (g s n : Int) (w : World) (hg : I64 g) (hs : I64 s) (hn : I64 n) :
    Calls Tryd.prog 21 #[.int .i64 g, .int .i64 s, .int .i64 n] w fun e w' => e = .returned (.string (headB g s n)) ∧ Below w.heap.size w w' := by
  obtain ⟨a, ha⟩ := numOf_spec g hg
  obtain ⟨b, hb⟩ := numOf_spec s hs
  obtain ⟨c, hc⟩ := numOf_spec n hn
  have HA := Lib.hid ha; have HB := Lib.hid hb; have HC := Lib.hid hc
  have za := ha.2.1; have zb := hb.2.1; have zc := hc.2.1
  have zab : (a ++ b).size ≤ 20 := by rw [append_cat, cat_size]; omega
  have zabc : ((a ++ b) ++ c).size ≤ 7996 := by rw [append_cat, append_cat, cat_size, cat_size]; omega
  have HZ := Lib.hid zabc
  clear hg hs hn ha hb hc zabc
  go_enter Tryd.func21, Tryd.ntmps21
  go_wp2_with fail
  refine (HA.out.2.2 _).mono ?_
  rintro e w1 ⟨rfl, hb⟩
  have HB1 := Lib.hid hb; clear hb
  go_wp2_with fail
  refine (HB.out.2.2 _).mono ?_
  rintro e w2 ⟨rfl, hb⟩
  have HB2 := Lib.hid (below_call HB1.out HB1.out.size hb); clear hb
  go_wp2_with fail
  refine (HC.out.2.2 _).mono ?_
  rintro e w3 ⟨rfl, hb⟩
  have HB3 := Lib.hid (below_call HB2.out HB2.out.size hb); clear hb
  go_wp2_with fail
  refine (spec_seal ((a ++ b) ++ c) _ HZ.out).mono ?_
  rintro e w4 ⟨rfl, hb⟩
  have HB4 := Lib.hid (below_call HB3.out HB3.out.size hb); clear hb
  go_wp2
  go_ret
  exact ⟨by unfold headB; rw [append_cat, append_cat, HA.out.1, HB.out.1, HC.out.1]; rfl, HB4.out⟩

set_option maxRecDepth 100000 in
theorem impl_sealed (g s n : Int) (w : World) (hg : I64 g) (hs : I64 s) (hn : I64 n) :
    Calls Tryd.prog 28 #[.agg #[.int .i64 g, .int .i64 s, .int .i64 n]] w fun e w' => e = .returned (.string (headB g s n)) ∧ Below w.heap.size w w' := by
  obtain ⟨a, ha⟩ := numOf_impl g hg
  obtain ⟨b, hb⟩ := numOf_impl s hs
  obtain ⟨c, hc⟩ := numOf_impl n hn
  have HP := Lib.hid ha.2.2; have HQ := Lib.hid hb.2.2; have HR := Lib.hid hc.2.2; have EP := Lib.hid ha.1; have EQ := Lib.hid hb.1; have ER := Lib.hid hc.1
  have za := ha.2.1; have zb := hb.2.1; have zc := hc.2.1
  have Z4 := Lib.hid (show (catB b c).size ≤ 1048576 by rw [cat_size]; omega)
  have Z5 := Lib.hid (show (catB a (catB b c)).size ≤ 7996 by rw [cat_size, cat_size]; omega)
  have Z0 := Lib.hid (show a.size ≤ 1048576 ∧ b.size ≤ 1048576 ∧ c.size ≤ 1048576 from ⟨by omega, by omega, by omega⟩)
  have HX := Lib.hid (heap_alloc_new w (.cells #[.int .i64 g, .int .i64 s, .int .i64 n] 54))
  have HB := Lib.hid ((Below.refl w.heap.size w).alloc (Nat.le_refl _) (.cells #[.int .i64 g, .int .i64 s, .int .i64 n] 54))
  clear hg hs hn ha hb hc za zb zc
  go_enter Tryd.func28, Tryd.ntmps28
  go_upto_region 1 with fail
  replace HB := Lib.hid (HB.out.drew)
  replace HX := Lib.hid (keep_blk (Below.refl _ _).drew HX.out)
  have HS := Lib.hid (box3 HX.out)
  go_region_held3 (fun W => W.cell? ⟨w.heap.size, 0, none⟩ = some (.int .i64 g) ∧ W.cell? ⟨w.heap.size, 1, none⟩ = some (.int .i64 s) ∧ W.cell? ⟨w.heap.size, 2, none⟩ = some (.int .i64 n)) (exact HS.out) (first
    | (go_at_call 54; (with_reducible refine (HP.out _).mono ?_); rintro e wx ⟨rfl, hb⟩; replace HX := Lib.hid (keep_blk hb HX.out); replace HB := Lib.hid (below_call HB.out HB.out.size hb); have HS := Lib.hid (box3 HX.out); clear hb)
    | (go_at_call 54; (with_reducible refine (HQ.out _).mono ?_); rintro e wx ⟨rfl, hb⟩; replace HX := Lib.hid (keep_blk hb HX.out); replace HB := Lib.hid (below_call HB.out HB.out.size hb); have HS := Lib.hid (box3 HX.out); clear hb)
    | (go_at_call 54; (with_reducible refine (HR.out _).mono ?_); rintro e wx ⟨rfl, hb⟩; replace HX := Lib.hid (keep_blk hb HX.out); replace HB := Lib.hid (below_call HB.out HB.out.size hb); have HS := Lib.hid (box3 HX.out); clear hb)
    | (go_at_call 53; (with_reducible refine (impl_joined b c _ Z0.out.2.1 Z0.out.2.2).mono ?_); rintro e wx ⟨rfl, hb⟩; replace HX := Lib.hid (keep_blk hb HX.out); replace HB := Lib.hid (below_call HB.out HB.out.size hb); have HS := Lib.hid (box3 HX.out); clear hb)
    | (go_at_call 53; (with_reducible refine (impl_joined a _ _ Z0.out.1 Z4.out).mono ?_); rintro e wx ⟨rfl, hb⟩; replace HX := Lib.hid (keep_blk hb HX.out); replace HB := Lib.hid (below_call HB.out HB.out.size hb); have HS := Lib.hid (box3 HX.out); clear hb)
    | (go_at_call 52; (with_reducible refine (impl_seal _ _ Z5.out).mono ?_); rintro e wx ⟨rfl, hb⟩; replace HX := Lib.hid (keep_blk hb HX.out); replace HB := Lib.hid (below_call HB.out HB.out.size hb); have HS := Lib.hid (box3 HX.out); clear hb))
  all_goals
    go_wp2
    go_ret
    exact ⟨by unfold headB; rw [cat_assoc, EP.out, EQ.out, ER.out]; rfl, HB.out⟩

end Go.Proofs.YtognfiiplclpaaaDoor
