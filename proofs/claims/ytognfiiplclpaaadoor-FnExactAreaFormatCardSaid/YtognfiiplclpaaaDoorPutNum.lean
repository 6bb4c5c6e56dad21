/-
  Contracts of l01Fold, folded and both PutNum: the bytes of a number.
-/
import Derived.Test.YtognfiiplclpaaaDoorProg
import Derived.Test.YtognfiiplclpaaaDoorLaws
import Derived.ProofKit
import Derived.Maps.AppendAt
namespace Go.Proofs.YtognfiiplclpaaaDoor
open Go.ChangeShapes Go.WideShapes Go.ChangeAt Go.RowKit

theorem spec_fold (n : Int) (w : World) (h1 : -9223372036854775808 ≤ n) (h2 : n ≤ 9223372036854775807) :
    Calls Tryd.prog 75 #[.int .i64 n] w fun e w' => e = .returned (.int .u64 (fold n)) ∧ w = w' := by
  by_cases h : n < 0
  · have H := Lib.hid (fold_neg n h)
    go_enter Tryd.func75, Tryd.ntmps75
    go_wp2
    go_ret
    exact ⟨by rw [H.out]; rfl, rfl⟩
  · have H := Lib.hid (fold_pos n (by omega))
    go_enter Tryd.func75, Tryd.ntmps75
    go_wp2
    go_ret
    exact ⟨by rw [H.out]; rfl, rfl⟩

theorem impl_fold (n : Int) (w : World) (h1 : -9223372036854775808 ≤ n) (h2 : n ≤ 9223372036854775807) :
    Calls Tryd.prog 80 #[.int .i64 n] w fun e w' => e = .returned (.int .u64 (fold n)) ∧ w = w' := by
  have H := Lib.hid (fold_bits n h1 h2)
  go_enter Tryd.func80, Tryd.ntmps80
  go_wp2
  go_ret
  exact ⟨by rw [← H.out]; rfl, rfl⟩

theorem infoU8 : (Tryd.prog.info? 5).map (fun i => (i.zero, i.size, i.bytes)) = some (some (.int .u8 0), 1, 1) := by kernel_rfl

set_option maxRecDepth 100000 in
theorem spec_putnum (n : Int) (w : World) (h1 : -9223372036854775808 ≤ n) (h2 : n ≤ 9223372036854775807) :
    Calls Tryd.prog 46 #[.int .i64 n] w fun e w' => e = .returned (.string ⟨(putNum n).toArray⟩) ∧ Below w.heap.size w w' := by
  have hF := fold_lt n h1 h2
  obtain ⟨i0, hi, hz0, hz1, hz2⟩ := info_parts infoU8
  go_enter Tryd.func46, Tryd.ntmps46
  go_wp2_with (go_at_call 75; refine (spec_fold _ _ (by omega) (by omega)).mono ?_; rintro e w' ⟨rfl, rfl⟩)
  go_loopw [3, 4] (fun u v wr => ∃ (uN f : Nat) (l : List UInt8), u = .int .u64 uN ∧ DigsAt (fold n) uN f l ∧ wr.ownsRow w.heap.size 5 1 v l.length (bvals l) ∧ Below w.heap.size w wr) (fun u _ _ => (intOf u).toNat)
  case atStart => exact ⟨fold n, 9, [], rfl, digsAt_start _ hF, World.ownsRow_made _ _ _ (Nat.le_refl _) (by decide) rfl, (Below.refl _ _).alloc (Nat.le_refl _) _⟩
  case round =>
    obtain ⟨uN, f, l, rfl, hD, hown, hb⟩ := hrel
    have hlen := digsAt_len hD
    have hul := digsAt_lt hD
    have hbase := hb.size
    by_cases hu : 128 ≤ uN
    · have HD := Lib.hid hD; clear hD
      have hu' : (128 : Int) ≤ (uN : Int) := by omega
      go_wp2_with (at_builtin; refine wpList_append_own _ rfl _ _ 61 rfl w.heap.size 5 i0 (.int .u8 0) 1 1 Tryd.underlying61 hi hz0 hz1 hz2 rfl (by decide) _ _ _ rfl (hown.alloc _) ⟨wr.heap.size, 0, none⟩ 1 1 [.int .u8 ((uN : Int) % 128 + 128)] rfl rfl ?c1 ?c2 ?c3 ?c4 ?c5 ?_)
      case c1 => exact (cell_one_new _ _ _)
      case c2 => simp [Value.oneCell']
      case c3 => unfold maxLen; omega
      case c4 => omega
      case c5 => simp; omega
      intro v' w1 hown' hgrow _
      rw [bvals_snoc_hi] at hown'
      go_wp2
      go_roundw
      case rel =>
        obtain ⟨g, rfl, hD'⟩ := digsAt_step HD.out hu
        exact ⟨uN / 128, g, _, by go_num, hD', by simpa using hown', (hb.alloc (by omega) _).grown hgrow (by simp; omega) (fun k hk => (hown.lt k hk).1)⟩
      case measure => simp [intOf]; omega
    · have HD := Lib.hid (digsAt_end hD (by omega)); clear hD
      have hu' : (uN : Int) < 128 := by omega
      go_wp2_with (at_builtin; refine wpList_append_own _ rfl _ _ 61 rfl w.heap.size 5 i0 (.int .u8 0) 1 1 Tryd.underlying61 hi hz0 hz1 hz2 rfl (by decide) _ _ _ rfl (hown.alloc _) ⟨wr.heap.size, 0, none⟩ 1 1 [.int .u8 (uN : Int)] rfl rfl ?d1 ?d2 ?d3 ?d4 ?d5 ?_)
      case d1 => exact (cell_one_new _ _ _)
      case d2 => simp [Value.oneCell']
      case d3 => unfold maxLen; omega
      case d4 => omega
      case d5 => simp; omega
      intro v' w1 hown' hgrow _
      rw [bvals_snoc l uN (by omega)] at hown'
      have hcv := own_string (P := Tryd.prog) 61 9 Tryd.underlying61 Tryd.underlying5 Tryd.underlying9 (l := l ++ [UInt8.ofNat uN]) (by simpa using hown')
      go_wp2
      go_ret
      exact ⟨by unfold putNum; rw [HD.out]; rfl, (hb.alloc (by omega) _).grown hgrow (by simp; omega) (fun k hk => (hown.lt k hk).1)⟩

set_option maxRecDepth 100000 in
theorem impl_putnum (n : Int) (w : World) (h1 : -9223372036854775808 ≤ n) (h2 : n ≤ 9223372036854775807) :
    Calls Tryd.prog 54 #[.int .i64 n] w fun e w' => e = .returned (.string ⟨(putNum n).toArray⟩) ∧ Below w.heap.size w w' := by
  have hF := fold_lt n h1 h2
  go_enter Tryd.func54, Tryd.ntmps54
  go_wp2_with (go_at_call 80; refine (impl_fold _ _ (by omega) (by omega)).mono ?_; rintro e w' ⟨rfl, rfl⟩)
  go_loopw [3, 5] (fun u c wr => ∃ (uN f : Nat) (l : List UInt8) (cs : Array Value), u = .int .u64 uN ∧ c = .int .i64 l.length ∧ DigsAt (fold n) uN f l ∧ wr.heap[w.heap.size]? = some (.cells cs 111 (0, 0)) ∧ cs.size = 10 ∧ cs.toList.take l.length = bvals l ∧ Below w.heap.size w wr) (fun u _ _ => (intOf u).toNat)
  case atStart => exact ⟨fold n, 9, [], _, rfl, rfl, digsAt_start _ hF, heap_alloc_new _ _, rfl, rfl, (Below.refl _ _).alloc (Nat.le_refl _) _⟩
  case round =>
    obtain ⟨uN, f, l, cs, rfl, rfl, hD, hblk, hcs, htake, hb⟩ := hrel
    have hlen := digsAt_len hD
    have hul := digsAt_lt hD
    have hbase := hb.size
    obtain ⟨old, hcell⟩ : ∃ v, wr.cell? ⟨w.heap.size, l.length, none⟩ = some v := ⟨_, block_cell hblk l.length (by omega)⟩
    have hfree := block_free hblk l.length
    by_cases hu : 128 ≤ uN
    · have HD := Lib.hid hD; clear hD
      have HC := Lib.hid hcs; clear hcs
      have HT := Lib.hid htake; clear htake
      have HB := Lib.hid hblk; clear hblk
      have hu' : (128 : Int) ≤ (uN : Int) := by omega
      go_wp2
      have e1 : (Value.int .u8 ((bits .and .u64 (uN : Int) 127 + 128) % 256)) = .int .u8 ((uN % 128 + 128 : Nat) : Int) := by
        rw [and127 uN hul]; congr 1; omega
      have E := Lib.hid e1; clear e1
      go_roundw
      case rel =>
        obtain ⟨g, rfl, hD'⟩ := digsAt_step HD.out hu
        rw [E.out]
        refine ⟨uN / 128, g, l ++ [UInt8.ofNat (uN % 128 + 128)], cs.setIfInBounds l.length (.int .u8 ((uN % 128 + 128 : Nat) : Int)), by go_num, by simp, hD', block_set HB.out _ _, by simp [HC.out], ?_, hb.setCell (Nat.le_refl _) _⟩
        have := setrow cs l.length l (uN % 128 + 128) (by omega) (by rw [HC.out]; omega) HT.out
        simpa using this
      case measure => simp [intOf]; omega
    · have HD := Lib.hid (digsAt_end hD (by omega)); clear hD
      have HC := Lib.hid hcs; clear hcs
      have HT := Lib.hid htake; clear htake
      have HB := Lib.hid hblk; clear hblk
      have hu' : (uN : Int) < 128 := by omega
      have hsl := fun W => run_slice_array_to (P := Tryd.prog) 111 5 10 Tryd.underlying111 (fun _ => by kernel_rfl) W ⟨w.heap.size, 0, none⟩ ((l.length : Int) + 1) (l.length + 1) (by omega) (by omega)
      have hcv := block_string (P := Tryd.prog) (block_set HB.out l.length (.int .u8 (uN : Int))) 61 5 9 Tryd.underlying61 Tryd.underlying5 Tryd.underlying9 (l ++ [UInt8.ofNat uN]) (l.length + 1) 10 (by simp) (setrow cs l.length l uN (by omega) (by rw [HC.out]; omega) HT.out)
      go_wp2
      go_ret
      exact ⟨by unfold putNum; rw [HD.out]; rfl, hb.setCell (Nat.le_refl _) _⟩

end Go.Proofs.YtognfiiplclpaaaDoor
