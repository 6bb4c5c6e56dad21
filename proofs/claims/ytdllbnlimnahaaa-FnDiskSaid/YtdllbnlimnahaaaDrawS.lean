/-
  Contracts of the source of draws itself, of one and of bytes.
-/
import Derived.Test.YtdllbnlimnahaaaDraw
namespace Go.Proofs.Ytdllbnlimnahaaa
open Go.ChangeShapes Go.WideShapes Go.ChangeAt Go.RowKit

theorem draw_none (S : Nat) (most : Int) (w : World) (hm : most ≤ 1) :
    Calls Try.prog 30 #[.pointer (some ⟨S, 0, none⟩), .int .i64 most] w fun e w' => e = .returned (.int .i64 0) ∧ w = w' := by
  go_enter Try.func30, Try.ntmps30
  go_wp2
  go_ret
  exact ⟨rfl, rfl⟩

/-- A number below most, or 0. -/
theorem draw_any (S : Nat) (cv : Value) (len : Nat) (most : Int) (w : World) (hS : Src w S cv len) (hC : Code w S cv len) (hm2 : most ≤ 4611686018427387904) :
    Calls Try.prog 30 #[.pointer (some ⟨S, 0, none⟩), .int .i64 most] w fun e w' => ∃ r : Int, e = .returned (.int .i64 r) ∧ 0 ≤ r ∧ (r < most ∨ r = 0) ∧ w.grownBy w' (some S) ∧ Src w' S cv len := by
  by_cases hm : most ≤ 1
  · exact (draw_none S most w hm).mono fun e w' ⟨h1, h2⟩ => ⟨0, h1, by omega, .inr rfl, h2 ▸ World.grownBy.refl w _, h2 ▸ hS⟩
  · exact (draw_n S cv len most w hS hC (by omega) hm2).mono fun e w' ⟨r, h1, h2, h3, h4, h5⟩ => ⟨r, h1, h2, .inl h3, h4, h5⟩

theorem draw_one (S : Nat) (cv : Value) (len : Nat) (of : Int) (w : World) (hS : Src w S cv len) (hC : Code w S cv len) (hm2 : of ≤ 4611686018427387904) :
    Calls Try.prog 31 #[.pointer (some ⟨S, 0, none⟩), .int .i64 of] w fun e w' => ∃ b : Bool, e = .returned (.bool b) ∧ w.grownBy w' (some S) ∧ Src w' S cv len := by
  have HD := Lib.hid (draw_any S cv len of w hS hC hm2)
  go_enter Try.func31, Try.ntmps31
  go_wp2_with fail
  refine HD.out.mono ?_
  rintro e w1 ⟨r, rfl, h1, h2, h3, h4⟩
  have H3 := Lib.hid h3; have H4 := Lib.hid h4; clear h3 h4
  go_wp2
  go_ret
  exact ⟨_, rfl, H3.out, H4.out⟩

theorem Src.keep {w w' : World} {S : Nat} {cv : Value} {len : Nat} (h : Src w S cv len) (he : w'.heap[S]? = w.heap[S]?) : Src w' S cv len := by
  obtain ⟨a1, a2, a3, a4, a5⟩ := h
  exact ⟨a1, a2, a3, by rw [he]; exact a4, a5⟩
theorem Src.lt {w : World} {S : Nat} {cv : Value} {len : Nat} (h : Src w S cv len) : S < w.heap.size := by
  obtain ⟨_, _, _, h, _⟩ := h
  exact block_lt h
/-- What has grown goes on growing, at a row that is younger. -/
theorem grownBy_young {w w1 w2 : World} {r r' : Option Nat} (h : w.grownBy w1 r) (k : w1.grownBy w2 r') (hy : ∀ j, r' = some j → w.heap.size ≤ j) : w.grownBy w2 r :=
  ⟨k.os.trans h.os, k.tape.trans h.tape, k.output.trans h.output, Nat.le_trans h.size k.size, fun j hj hr => (k.block j (Nat.lt_of_lt_of_le hj h.size) (fun e => by have := hy j e.symm; omega)).trans (h.block j hj hr)⟩

theorem infoU8s : (Try.prog.info? 5).map (fun i => (i.zero, i.size, i.bytes)) = some (some (.int .u8 0), 1, 1) := by kernel_rfl

/-- How many bytes were asked for. -/
def SomeText (w : World) (S : Nat) (cv : Value) (len : Nat) (n : Int) (e : Ending) (w' : World) : Prop :=
  ∃ l : List UInt8, e = .returned (.string ⟨l.toArray⟩) ∧ l.length = n.toNat ∧ w.grownBy w' (some S) ∧ Src w' S cv len

set_option maxRecDepth 100000 in
set_option maxHeartbeats 2000000 in
theorem draw_bytes (S : Nat) (cv : Value) (len : Nat) (n : Int) (w : World) (hS : Src w S cv len) (hC : Code w S cv len) (hn : n ≤ 1048576) :
    Calls Try.prog 32 #[.pointer (some ⟨S, 0, none⟩), .int .i64 n] w (SomeText w S cv len n) := by
  obtain ⟨i0, hi, hz0, hz1, hz2⟩ := info_parts infoU8s
  have HS := Lib.hid hS
  have HC := Lib.hid hC
  have hSl : S < w.heap.size := by obtain ⟨_, _, _, h, _⟩ := hS; exact block_lt h
  clear hS hC
  go_enter Try.func32, Try.ntmps32
  go_wp2
  go_loopw [5, 6] (fun v i wr => ∃ (k : Nat) (l : List UInt8), i = .int .i64 k ∧ (k : Int) ≤ max n 0 ∧ l.length = k ∧ wr.ownsRow w.heap.size 5 1 v l.length (bvals l) ∧ w.grownBy wr (some S) ∧ Src wr S cv len ∧ Code wr S cv len) (fun _ i _ => n.toNat - (intOf i).toNat)
  case atStart =>
    refine ⟨0, [], rfl, by omega, rfl, World.ownsRow_made _ _ _ (Nat.le_refl _) (by decide) rfl, World.grownBy_alloc _ _ _, ?_, HC.out.on (World.grownBy_alloc _ _ _)⟩
    obtain ⟨a1, a2, a3, a4, a5⟩ := HS.out
    exact ⟨a1, a2, a3, by rw [heap_alloc_old _ _ (block_lt a4)]; exact a4, a5⟩
  case round =>
    obtain ⟨k, l, rfl, hk, hl, hown, hg, hS1, hC1⟩ := hrel
    have hbase := hg.size
    by_cases hlt : (k : Int) < n
    · have HO := Lib.hid hown
      have HD := Lib.hid (draw_n S cv len 256 wr hS1 hC1 (by omega) (by omega))
      have HG := Lib.hid hg; have HC1 := Lib.hid hC1; have HL := Lib.hid hl
      clear hown hg hS1 hC1 hl
      go_wp2_with fail
      refine HD.out.mono ?_
      rintro e w1 ⟨r, rfl, r1, r2, hg1, hS2⟩
      have HG1 := Lib.hid hg1; have HS2 := Lib.hid hS2
      have hz1' := hg1.size
      have hown1 : w1.ownsRow w.heap.size 5 1 u5 l.length (bvals l) := HO.out.kept hg1 (by
        rcases ho : u5.ownBlock with _ | q
        · exact .inl rfl
        · exact .inr (by have := (HO.out.lt q ho).1; simp; omega))
      clear hg1 hS2
      obtain ⟨rn, rfl⟩ := Int.eq_ofNat_of_zero_le r1
      go_wp2_with (at_builtin; refine wpList_append_own _ rfl _ _ 22 rfl w.heap.size 5 i0 (.int .u8 0) 1 1 Try.underlying22 hi hz0 hz1 hz2 rfl (by decide) _ _ _ rfl (hown1.alloc _) ⟨w1.heap.size, 0, none⟩ 1 1 [.int .u8 (rn : Int)] rfl rfl ?c1 ?c2 ?c3 ?c4 ?c5 ?_)
      case c1 => exact (cell_one_new _ _ _)
      case c2 => simp [Value.oneCell']
      case c3 => have := HL.out; unfold maxLen; omega
      case c4 => have := HL.out; omega
      case c5 => simp; omega
      intro v' w2 hown' hgrow _
      rw [bvals_snoc l rn (by omega)] at hown'
      have HO' := Lib.hid hown'; have HGr := Lib.hid hgrow
      clear hown' hgrow
      go_wp2
      go_roundw
      case rel =>
        have hrow : ∀ j, u5.ownBlock = some j → w.heap.size ≤ j := fun j hj => (HO.out.lt j hj).1
        have hA := grownBy_young (grownBy_trans HG.out HG1.out) (World.grownBy_alloc w1 (.cells #[.int .u8 (rn : Int)] 5) none) (fun j hj => by cases hj)
        have hB := grownBy_young hA HGr.out hrow
        have hSw2 : w2.heap[S]? = w1.heap[S]? := by
          rw [HGr.out.block S (by simp; omega) (fun e => by have := hrow S e.symm; omega), heap_alloc_old _ _ (by omega)]
        have hL := HL.out
        exact ⟨k + 1, l ++ [UInt8.ofNat rn], by go_num, by omega, by simp [hL], by simpa using HO'.out, hB, HS2.out.keep hSw2, HC.out.on hB⟩
      case measure => simp [intOf]; omega
    · have HO := Lib.hid hown; have HG := Lib.hid hg; have HS1 := Lib.hid hS1; have HL := Lib.hid hl
      have hcv := own_string (P := Try.prog) 22 9 Try.underlying22 Try.underlying5 Try.underlying9 (l := l) hown
      clear hown hg hS1 hC1 hl
      go_wp2
      go_ret
      exact ⟨l, rfl, by rw [HL.out]; omega, HG.out, HS1.out⟩

end Go.Proofs.Ytdllbnlimnahaaa
