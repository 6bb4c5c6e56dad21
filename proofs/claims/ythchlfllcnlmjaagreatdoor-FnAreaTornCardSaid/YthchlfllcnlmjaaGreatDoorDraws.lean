/-
  Contracts of the draws: numbers, texts, a source; a slice of bytes that came in.
-/
import Derived.Test.YthchlfllcnlmjaaGreatDoorProg
import Derived.Test.YthchlfllcnlmjaaGreatDoorBase1
import Derived.ProofKit
import Derived.BigQuiet
import Derived.IntWalk
import Derived.Deep.QuietTactic
import Derived.RegionTactic
import Derived.BigRegion
import Derived.WalkSmall
import Derived.Maps.AppendAt
import Derived.Laws.MakeOwn
import Derived.Laws.OwnMore
import Derived.OpenShut
/-! Contracts of the draws: what a source of draws does to memory, and within which bounds its numbers lie. -/
namespace Go.Proofs.YthchlfllcnlmjaaGreatDoor
open Go.ChangeShapes Go.WideShapes Go.ChangeAt Go.RowKit

/-- A slice of bytes that came in, below block B: of so many bytes. -/
def Code (w : World) (B : Nat) (cv : Value) (len : Nat) : Prop :=
  ∃ a cap, cv = .slice a len cap ∧ len ≤ 1048576 ∧ (len = 0 ∨ ∃ b off, a = some ⟨b, off, none⟩ ∧ b < B ∧ ∀ i, i < len → ∃ v : Int, 0 ≤ v ∧ v < 256 ∧ w.cell? ⟨b, off + i, none⟩ = some (.int .u8 v))

/-- A source of draws at block S over that slice. -/
def Src (w : World) (S : Nat) (cv : Value) (len : Nat) : Prop :=
  ∃ (at_ : Nat) (mix size : Int), w.heap[S]? = some (.cells #[cv, .int .i64 (at_ : Int), .int .u64 mix, .int .i64 size] 98 (0, 0)) ∧ at_ ≤ len ∧ 0 ≤ mix ∧ mix < 18446744073709551616 ∧ 0 ≤ size ∧ size ≤ 12

theorem Code.on {w w' : World} {B : Nat} {cv : Value} {len : Nat} (h : Code w B cv len) (hg : w.grownBy w' (some B)) : Code w' B cv len := by
  obtain ⟨a, cap, rfl, hl, h⟩ := h
  refine ⟨a, cap, rfl, hl, h.imp id ?_⟩
  rintro ⟨b, off, rfl, hb, hc⟩
  refine ⟨b, off, rfl, hb, fun i hi => ?_⟩
  obtain ⟨v, h1, h2, h3⟩ := hc i hi
  exact ⟨v, h1, h2, hg.cell h3 (by simp; omega)⟩

theorem bits_range (op : BinOp) (x y : Int) : 0 ≤ bits op .u64 x y ∧ bits op .u64 x y < 18446744073709551616 := by
  unfold bits
  rw [IntKind.wrap_u64]
  omega

/-! The four cells of a source: read, written, behind draws. -/
theorem four_read {w : World} {S : Nat} {x0 x1 x2 x3 : Value} {T : TypeId} (h : w.heap[S]? = some (.cells #[x0, x1, x2, x3] T (0, 0))) :
    w.cell? ⟨S, 0, none⟩ = some x0 ∧ w.cell? ⟨S, 1, none⟩ = some x1 ∧ w.cell? ⟨S, 2, none⟩ = some x2 ∧ w.cell? ⟨S, 3, none⟩ = some x3 ∧ w.frozen? ⟨S, 1, none⟩ = false ∧ w.frozen? ⟨S, 2, none⟩ = false ∧ w.frozen? ⟨S, 3, none⟩ = false := by
  refine ⟨?_, ?_, ?_, ?_, block_free h 1, block_free h 2, block_free h 3⟩ <;> simp [World.cell?, h]
theorem grownBy_set (w : World) (S k : Nat) (v : Value) : w.grownBy (w.setCell ⟨S, k, none⟩ v) (some S) :=
  ⟨rfl, rfl, rfl, by simp [World.setCell], fun j _ hj => Below.heap_setCell _ _ _ _ (fun e => hj (by simp [e]))⟩
theorem grownBy_trans {w w1 w2 : World} {r : Option Nat} (h : w.grownBy w1 r) (k : w1.grownBy w2 r) : w.grownBy w2 r :=
  ⟨k.os.trans h.os, k.tape.trans h.tape, k.output.trans h.output, Nat.le_trans h.size k.size, fun j hj hr => (k.block j (Nat.lt_of_lt_of_le hj h.size) hr).trans (h.block j hj hr)⟩
theorem grownBy_drew {w w1 : World} {r : Option Nat} (h : w.grownBy w1 r) : w.grownBy w1.drew r := ⟨h.os, h.tape, h.output, h.size, h.block⟩
theorem four_set1 {w : World} {S : Nat} {x0 x1 x2 x3 : Value} {T : TypeId} (h : w.heap[S]? = some (.cells #[x0, x1, x2, x3] T (0, 0))) (v : Value) : (w.setCell ⟨S, 1, none⟩ v).heap[S]? = some (.cells #[x0, v, x2, x3] T (0, 0)) := block_set h 1 v
theorem four_set2 {w : World} {S : Nat} {x0 x1 x2 x3 : Value} {T : TypeId} (h : w.heap[S]? = some (.cells #[x0, x1, x2, x3] T (0, 0))) (v : Value) : (w.setCell ⟨S, 2, none⟩ v).heap[S]? = some (.cells #[x0, x1, v, x3] T (0, 0)) := block_set h 2 v
theorem four_set3 {w : World} {S : Nat} {x0 x1 x2 x3 : Value} {T : TypeId} (h : w.heap[S]? = some (.cells #[x0, x1, x2, x3] T (0, 0))) (v : Value) : (w.setCell ⟨S, 3, none⟩ v).heap[S]? = some (.cells #[x0, x1, x2, v] T (0, 0)) := block_set h 3 v

theorem ret_i64 {a b : Int} (h : a = b) : Ending.returned (.int .i64 a) = .returned (.int .i64 b) := by rw [h]
theorem rem_range (x most : Int) (hm : 1 < most) : 0 ≤ x % most ∧ x % most < most := ⟨Int.emod_nonneg _ (by omega), Int.emod_lt_of_pos _ (by omega)⟩

set_option maxRecDepth 100000 in
set_option maxHeartbeats 4000000 in
theorem draw_n (S : Nat) (cv : Value) (len : Nat) (most : Int) (w : World) (hS : Src w S cv len) (hC : Code w S cv len) (hm : 1 < most) (hm2 : most ≤ 4611686018427387904) :
    Calls Tryz.prog 32 #[.pointer (some ⟨S, 0, none⟩), .int .i64 most] w fun e w' => ∃ r : Int, e = .returned (.int .i64 r) ∧ 0 ≤ r ∧ r < most ∧ w.grownBy w' (some S) ∧ Src w' S cv len := by
  obtain ⟨at_, mix, size, hS, h1, h2, h3, h4, h5⟩ := hS
  obtain ⟨a, cap, rfl, hl, hC⟩ := hC
  obtain ⟨c0, c1, c2, c3, f1, f2, _⟩ := four_read hS
  have hm' : ¬ most ≤ 1 := by omega
  by_cases hlt : at_ < len
  · obtain ⟨b, off, rfl, hb, hc⟩ := hC.resolve_left (by omega)
    obtain ⟨v, v1, v2, v3⟩ := hc at_ hlt
    clear hc hC
    have hlt' : (at_ : Int) < (len : Int) := by omega
    have HS := Lib.hid hS; clear hS
    have hbS : ¬ b = S := by omega
    go_enter Tryz.func32, Tryz.ntmps32
    go_wp2
    go_region
    go_wp2
    go_region
    go_wp2_with fail
    have HS0 : Hid (((w.setCell ⟨S, 1, none⟩ (.int .i64 ((at_ : Int) + 1))).drew.drew).heap[S]? = _) := Lib.hid (four_set1 HS.out (.int .i64 ((at_ : Int) + 1)))
    have HG0 : Hid (w.grownBy ((w.setCell ⟨S, 1, none⟩ (.int .i64 ((at_ : Int) + 1))).drew.drew) (some S)) := Lib.hid (grownBy_drew (grownBy_drew (grownBy_set w S 1 _)))
    generalize (w.setCell ⟨S, 1, none⟩ (.int .i64 ((at_ : Int) + 1))).drew.drew = w0 at *
    clear c0 c1 c2 c3 f1 f2 HS v3
    obtain ⟨c0, c1, c2, c3, f1, f2, _⟩ := four_read HS0.out
    go_region
    obtain ⟨g1, g2⟩ := bits_range .xor mix (IntKind.u64.wrap (mix * 8192))
    generalize bits .xor .u64 mix (IntKind.u64.wrap (mix * 8192)) = m1 at *
    have HS1 : Hid (((w0.setCell ⟨S, 2, none⟩ (.int .u64 m1)).drew).heap[S]? = _) := Lib.hid (four_set2 HS0.out (.int .u64 m1))
    have HG1 : Hid (w.grownBy ((w0.setCell ⟨S, 2, none⟩ (.int .u64 m1)).drew) (some S)) := Lib.hid (grownBy_trans HG0.out (grownBy_drew (grownBy_set w0 S 2 _)))
    generalize (w0.setCell ⟨S, 2, none⟩ (.int .u64 m1)).drew = w1 at *
    clear c0 c1 c2 c3 f1 f2 HS0 HG0
    obtain ⟨c0, c1, c2, c3, f1, f2, _⟩ := four_read HS1.out
    go_wp2
    go_region
    obtain ⟨g3, g4⟩ := bits_range .xor m1 (m1 / 128)
    generalize bits .xor .u64 m1 (m1 / 128) = m2 at *
    have HS2 : Hid (((w1.setCell ⟨S, 2, none⟩ (.int .u64 m2)).drew).heap[S]? = _) := Lib.hid (four_set2 HS1.out (.int .u64 m2))
    have HG2 : Hid (w.grownBy ((w1.setCell ⟨S, 2, none⟩ (.int .u64 m2)).drew) (some S)) := Lib.hid (grownBy_trans HG1.out (grownBy_drew (grownBy_set w1 S 2 _)))
    generalize (w1.setCell ⟨S, 2, none⟩ (.int .u64 m2)).drew = w2 at *
    clear c0 c1 c2 c3 f1 f2 HS1 HG1
    obtain ⟨c0, c1, c2, c3, f1, f2, _⟩ := four_read HS2.out
    go_wp2
    go_region
    obtain ⟨g5, g6⟩ := bits_range .xor m2 (IntKind.u64.wrap (m2 * 131072))
    generalize bits .xor .u64 m2 (IntKind.u64.wrap (m2 * 131072)) = m3 at *
    have HS3 : Hid (((w2.setCell ⟨S, 2, none⟩ (.int .u64 m3)).drew).heap[S]? = _) := Lib.hid (four_set2 HS2.out (.int .u64 m3))
    have HG3 : Hid (w.grownBy ((w2.setCell ⟨S, 2, none⟩ (.int .u64 m3)).drew) (some S)) := Lib.hid (grownBy_trans HG2.out (grownBy_drew (grownBy_set w2 S 2 _)))
    generalize (w2.setCell ⟨S, 2, none⟩ (.int .u64 m3)).drew = w3 at *
    clear c0 c1 c2 c3 f1 f2 HS2 HG2
    obtain ⟨c0, c1, c2, c3, f1, f2, _⟩ := four_read HS3.out
    go_wp2
    go_ret
    have hr := rem_range (v + m3 / 1048576) most hm
    generalize (v + m3 / 1048576) % most = r at *
    have er : wrap64 r = r := by unfold wrap64; omega
    exact ⟨r, ret_i64 er, hr.1, hr.2, HG3.out, at_ + 1, m3, size, HS3.out, by omega, g5, g6, h4, h5⟩
  · have hlt' : ¬ (at_ : Int) < (len : Int) := by omega
    clear hC
    have HS := Lib.hid hS; clear hS
    go_enter Tryz.func32, Tryz.ntmps32
    go_wp2
    go_region
    go_wp2
    go_region
    obtain ⟨g1, g2⟩ := bits_range .xor mix (IntKind.u64.wrap (mix * 8192))
    generalize bits .xor .u64 mix (IntKind.u64.wrap (mix * 8192)) = m1 at *
    have HS1 : Hid (((w.setCell ⟨S, 2, none⟩ (.int .u64 m1)).drew.drew).heap[S]? = _) := Lib.hid (four_set2 HS.out (.int .u64 m1))
    have HG1 : Hid (w.grownBy ((w.setCell ⟨S, 2, none⟩ (.int .u64 m1)).drew.drew) (some S)) := Lib.hid (grownBy_drew (grownBy_drew (grownBy_set w S 2 _)))
    generalize (w.setCell ⟨S, 2, none⟩ (.int .u64 m1)).drew.drew = w1 at *
    clear c0 c1 c2 c3 f1 f2 HS
    obtain ⟨c0, c1, c2, c3, f1, f2, _⟩ := four_read HS1.out
    go_wp2
    go_region
    obtain ⟨g3, g4⟩ := bits_range .xor m1 (m1 / 128)
    generalize bits .xor .u64 m1 (m1 / 128) = m2 at *
    have HS2 : Hid (((w1.setCell ⟨S, 2, none⟩ (.int .u64 m2)).drew).heap[S]? = _) := Lib.hid (four_set2 HS1.out (.int .u64 m2))
    have HG2 : Hid (w.grownBy ((w1.setCell ⟨S, 2, none⟩ (.int .u64 m2)).drew) (some S)) := Lib.hid (grownBy_trans HG1.out (grownBy_drew (grownBy_set w1 S 2 _)))
    generalize (w1.setCell ⟨S, 2, none⟩ (.int .u64 m2)).drew = w2 at *
    clear c0 c1 c2 c3 f1 f2 HS1 HG1
    obtain ⟨c0, c1, c2, c3, f1, f2, _⟩ := four_read HS2.out
    go_wp2
    go_region
    obtain ⟨g5, g6⟩ := bits_range .xor m2 (IntKind.u64.wrap (m2 * 131072))
    generalize bits .xor .u64 m2 (IntKind.u64.wrap (m2 * 131072)) = m3 at *
    have HS3 : Hid (((w2.setCell ⟨S, 2, none⟩ (.int .u64 m3)).drew).heap[S]? = _) := Lib.hid (four_set2 HS2.out (.int .u64 m3))
    have HG3 : Hid (w.grownBy ((w2.setCell ⟨S, 2, none⟩ (.int .u64 m3)).drew) (some S)) := Lib.hid (grownBy_trans HG2.out (grownBy_drew (grownBy_set w2 S 2 _)))
    generalize (w2.setCell ⟨S, 2, none⟩ (.int .u64 m3)).drew = w3 at *
    clear c0 c1 c2 c3 f1 f2 HS2 HG2
    obtain ⟨c0, c1, c2, c3, f1, f2, _⟩ := four_read HS3.out
    go_wp2
    go_ret
    have hr := rem_range (m3 / 1048576) most hm
    generalize (m3 / 1048576) % most = r at *
    have er : wrap64 r = r := by unfold wrap64; omega
    exact ⟨r, ret_i64 er, hr.1, hr.2, HG3.out, at_, m3, size, HS3.out, by omega, g5, g6, h4, h5⟩

end Go.Proofs.YthchlfllcnlmjaaGreatDoor

/-! Contracts of the source of draws itself, of one and of bytes. -/
namespace Go.Proofs.YthchlfllcnlmjaaGreatDoor
open Go.ChangeShapes Go.WideShapes Go.ChangeAt Go.RowKit

theorem draw_none (S : Nat) (most : Int) (w : World) (hm : most ≤ 1) :
    Calls Tryz.prog 32 #[.pointer (some ⟨S, 0, none⟩), .int .i64 most] w fun e w' => e = .returned (.int .i64 0) ∧ w = w' := by
  go_enter Tryz.func32, Tryz.ntmps32
  go_wp2
  go_ret
  exact ⟨rfl, rfl⟩

/-- A number below most, or 0. -/
theorem draw_any (S : Nat) (cv : Value) (len : Nat) (most : Int) (w : World) (hS : Src w S cv len) (hC : Code w S cv len) (hm2 : most ≤ 4611686018427387904) :
    Calls Tryz.prog 32 #[.pointer (some ⟨S, 0, none⟩), .int .i64 most] w fun e w' => ∃ r : Int, e = .returned (.int .i64 r) ∧ 0 ≤ r ∧ (r < most ∨ r = 0) ∧ w.grownBy w' (some S) ∧ Src w' S cv len := by
  by_cases hm : most ≤ 1
  · exact (draw_none S most w hm).mono fun e w' ⟨h1, h2⟩ => ⟨0, h1, by omega, .inr rfl, h2 ▸ World.grownBy.refl w _, h2 ▸ hS⟩
  · exact (draw_n S cv len most w hS hC (by omega) hm2).mono fun e w' ⟨r, h1, h2, h3, h4, h5⟩ => ⟨r, h1, h2, .inl h3, h4, h5⟩

theorem draw_one (S : Nat) (cv : Value) (len : Nat) (of : Int) (w : World) (hS : Src w S cv len) (hC : Code w S cv len) (hm2 : of ≤ 4611686018427387904) :
    Calls Tryz.prog 33 #[.pointer (some ⟨S, 0, none⟩), .int .i64 of] w fun e w' => ∃ b : Bool, e = .returned (.bool b) ∧ w.grownBy w' (some S) ∧ Src w' S cv len := by
  have HD := Lib.hid (draw_any S cv len of w hS hC hm2)
  go_enter Tryz.func33, Tryz.ntmps33
  go_wp2_with fail
  refine HD.out.mono ?_
  rintro e w1 ⟨r, rfl, h1, h2, h3, h4⟩
  have H3 := Lib.hid h3; have H4 := Lib.hid h4; clear h3 h4
  go_wp2
  go_ret
  exact ⟨_, rfl, H3.out, H4.out⟩

theorem Src.keep {w w' : World} {S : Nat} {cv : Value} {len : Nat} (h : Src w S cv len) (he : w'.heap[S]? = w.heap[S]?) : Src w' S cv len := by
  obtain ⟨a1, a2, a3, a4, a5⟩ := h
  exact ⟨a1, a2, a3, by rw [he]; exact a4, a5⟩
theorem Src.lt {w : World} {S : Nat} {cv : Value} {len : Nat} (h : Src w S cv len) : S < w.heap.size := by
  obtain ⟨_, _, _, h, _⟩ := h
  exact block_lt h
/-- What has grown goes on growing, at a row that is younger. -/
theorem grownBy_young {w w1 w2 : World} {r r' : Option Nat} (h : w.grownBy w1 r) (k : w1.grownBy w2 r') (hy : ∀ j, r' = some j → w.heap.size ≤ j) : w.grownBy w2 r :=
  ⟨k.os.trans h.os, k.tape.trans h.tape, k.output.trans h.output, Nat.le_trans h.size k.size, fun j hj hr => (k.block j (Nat.lt_of_lt_of_le hj h.size) (fun e => by have := hy j e.symm; omega)).trans (h.block j hj hr)⟩

theorem infoU8s : (Tryz.prog.info? 5).map (fun i => (i.zero, i.size, i.bytes)) = some (some (.int .u8 0), 1, 1) := by kernel_rfl

/-- How many bytes were asked for. -/
def SomeText (w : World) (S : Nat) (cv : Value) (len : Nat) (n : Int) (e : Ending) (w' : World) : Prop :=
  ∃ l : List UInt8, e = .returned (.string ⟨l.toArray⟩) ∧ l.length = n.toNat ∧ w.grownBy w' (some S) ∧ Src w' S cv len

set_option maxRecDepth 100000 in
set_option maxHeartbeats 2000000 in
theorem draw_bytes (S : Nat) (cv : Value) (len : Nat) (n : Int) (w : World) (hS : Src w S cv len) (hC : Code w S cv len) (hn : n ≤ 1048576) :
    Calls Tryz.prog 31 #[.pointer (some ⟨S, 0, none⟩), .int .i64 n] w (SomeText w S cv len n) := by
  obtain ⟨i0, hi, hz0, hz1, hz2⟩ := info_parts infoU8s
  have HS := Lib.hid hS
  have HC := Lib.hid hC
  have hSl : S < w.heap.size := by obtain ⟨_, _, _, h, _⟩ := hS; exact block_lt h
  clear hS hC
  go_enter Tryz.func31, Tryz.ntmps31
  go_wp2
  go_loopw [5, 6] (fun v i wr => ∃ (k : Nat) (l : List UInt8), i = .int .i64 k ∧ (k : Int) ≤ max n 0 ∧ l.length = k ∧ wr.ownsRow w.heap.size 5 1 v l.length (bvals l) ∧ w.grownBy wr (some S) ∧ Src wr S cv len ∧ Code wr S cv len) (fun _ i _ => n.toNat - (intOf i).toNat)
  case atStart =>
    refine ⟨0, [], rfl, by omega, rfl, World.ownsRow_made _ _ _ (Nat.le_refl _) (by decide) rfl, World.grownBy_alloc _ _ _, ?_, HC.out.on (World.grownBy_alloc _ _ _)⟩
    obtain ⟨a1, a2, a3, a4, a5⟩ := HS.out
    exact ⟨a1, a2, a3, by rw [heap_alloc_old _ _ (block_lt a4)]; exact a4, a5⟩
  case round =>
    obtain ⟨k, l, rfl, hk, hl, hown, hg, hS1, hC1⟩ := hrel
    have hbase := hg.size
    by_cases hlt : (k : Int) < n
    · have HO := Lib.hid hown
      have HD := Lib.hid (draw_n S cv len 256 wr hS1 hC1 (by omega) (by omega))
      have HG := Lib.hid hg; have HC1 := Lib.hid hC1; have HL := Lib.hid hl
      clear hown hg hS1 hC1 hl
      go_wp2_with fail
      refine HD.out.mono ?_
      rintro e w1 ⟨r, rfl, r1, r2, hg1, hS2⟩
      have HG1 := Lib.hid hg1; have HS2 := Lib.hid hS2
      have hz1' := hg1.size
      have hown1 : w1.ownsRow w.heap.size 5 1 u5 l.length (bvals l) := HO.out.kept hg1 (by
        rcases ho : u5.ownBlock with _ | q
        · exact .inl rfl
        · exact .inr (by have := (HO.out.lt q ho).1; simp; omega))
      clear hg1 hS2
      obtain ⟨rn, rfl⟩ := Int.eq_ofNat_of_zero_le r1
      go_wp2_with (at_builtin; refine wpList_append_own _ rfl _ _ 22 rfl w.heap.size 5 i0 (.int .u8 0) 1 1 Tryz.underlying22 hi hz0 hz1 hz2 rfl (by decide) _ _ _ rfl (hown1.alloc _) ⟨w1.heap.size, 0, none⟩ 1 1 [.int .u8 (rn : Int)] rfl rfl ?c1 ?c2 ?c3 ?c4 ?c5 ?_)
      case c1 => exact (cell_one_new _ _ _)
      case c2 => simp [Value.oneCell']
      case c3 => have := HL.out; unfold maxLen; omega
      case c4 => have := HL.out; omega
      case c5 => simp; omega
      intro v' w2 hown' hgrow _
      rw [bvals_snoc l rn (by omega)] at hown'
      have HO' := Lib.hid hown'; have HGr := Lib.hid hgrow
      clear hown' hgrow
      go_wp2
      go_roundw
      case rel =>
        have hrow : ∀ j, u5.ownBlock = some j → w.heap.size ≤ j := fun j hj => (HO.out.lt j hj).1
        have hA := grownBy_young (grownBy_trans HG.out HG1.out) (World.grownBy_alloc w1 (.cells #[.int .u8 (rn : Int)] 5) none) (fun j hj => by cases hj)
        have hB := grownBy_young hA HGr.out hrow
        have hSw2 : w2.heap[S]? = w1.heap[S]? := by
          rw [HGr.out.block S (by simp; omega) (fun e => by have := hrow S e.symm; omega), heap_alloc_old _ _ (by omega)]
        have hL := HL.out
        exact ⟨k + 1, l ++ [UInt8.ofNat rn], by go_num, by omega, by simp [hL], by simpa using HO'.out, hB, HS2.out.keep hSw2, HC.out.on hB⟩
      case measure => simp [intOf]; omega
    · have HO := Lib.hid hown; have HG := Lib.hid hg; have HS1 := Lib.hid hS1; have HL := Lib.hid hl
      have hcv := own_string (P := Tryz.prog) 22 9 Tryz.underlying22 Tryz.underlying5 Tryz.underlying9 (l := l) hown
      clear hown hg hS1 hC1 hl
      go_wp2
      go_ret
      exact ⟨l, rfl, by rw [HL.out]; omega, HG.out, HS1.out⟩

end Go.Proofs.YthchlfllcnlmjaaGreatDoor

/-! The contract of the making of a source of draws. -/
namespace Go.Proofs.YthchlfllcnlmjaaGreatDoor
open Go.ChangeShapes Go.WideShapes Go.ChangeAt Go.RowKit

def SrcMade (w : World) (cv : Value) (len : Nat) (e : Ending) (w' : World) : Prop :=
  e = .returned (.pointer (some ⟨w.heap.size, 0, none⟩)) ∧ Below w.heap.size w w' ∧ Src w' w.heap.size cv len ∧ Code w' w.heap.size cv len

theorem Code.below {w w' : World} {B : Nat} {cv : Value} {len : Nat} (h : Code w B cv len) (hg : Below B w w') : Code w' B cv len := by
  obtain ⟨a, cap, rfl, hl, h⟩ := h
  refine ⟨a, cap, rfl, hl, h.imp id ?_⟩
  rintro ⟨b, off, rfl, hb, hc⟩
  refine ⟨b, off, rfl, hb, fun i hi => ?_⟩
  obtain ⟨v, h1, h2, h3⟩ := hc i hi
  exact ⟨v, h1, h2, by rw [hg.cell (p := ⟨b, off + i, none⟩) hb]; exact h3⟩
theorem Code.form {w : World} {B : Nat} {cv : Value} {len : Nat} (h : Code w B cv len) : ∃ a cap, cv = .slice a len cap ∧ len ≤ 1048576 := by
  obtain ⟨a, cap, h1, h2, _⟩ := h
  exact ⟨a, cap, h1, h2⟩
theorem Code.get {w : World} {B : Nat} {a : Option Addr} {len cap : Nat} (h : Code w B (.slice a len cap) len) (i : Nat) (hi : i < len) : ∃ b off v, a = some ⟨b, off, none⟩ ∧ b < B ∧ (0 : Int) ≤ v ∧ v < 256 ∧ w.cell? ⟨b, off + i, none⟩ = some (.int .u8 v) := by
  obtain ⟨a', cap', h1, h2, h⟩ := h
  simp only [Value.slice.injEq] at h1
  obtain ⟨rfl, _, rfl⟩ := h1
  obtain ⟨b, off, ha, hb, hc⟩ := h.resolve_left (by omega)
  obtain ⟨v, h1, h2, h3⟩ := hc i hi
  exact ⟨b, off, v, ha, hb, h1, h2, h3⟩

set_option maxRecDepth 100000 in
set_option maxHeartbeats 4000000 in
theorem draw_source (cv : Value) (len : Nat) (w : World) (hC : Code w w.heap.size cv len) :
    Calls Tryz.prog 29 #[cv] w (SrcMade w cv len) := by
  obtain ⟨a, cap, rfl, hl⟩ := hC.form
  have HC := Lib.hid hC; clear hC
  go_enter Tryz.func29, Tryz.ntmps29
  go_wp2
  go_loopw [4] (fun i wr => ∃ (k : Nat) (mix : Int), i = .int .i64 k ∧ k ≤ len ∧ wr.heap[w.heap.size]? = some (.cells #[.slice a len cap, .int .i64 0, .int .u64 mix, .int .i64 0] 98 (0, 0)) ∧ 0 ≤ mix ∧ mix < 18446744073709551616 ∧ Below w.heap.size w wr) (fun i _ => len - (intOf i).toNat)
  case atStart => exact ⟨0, _, rfl, by omega, heap_alloc_new _ _, by omega, by omega, (Below.refl _ _).alloc (Nat.le_refl _) _⟩
  case round =>
    obtain ⟨k, mix, rfl, hk, hS, hm1, hm2, hb⟩ := hrel
    have hC := HC.out.below hb
    obtain ⟨c0, c1, c2, c3, f1, f2, f3⟩ := four_read hS
    have hlt0 := block_lt hS
    by_cases hlt : k < len ∧ k < 64
    · obtain ⟨b, off, v, rfl, hbB, v1, v2, v3⟩ := hC.get k hlt.1
      obtain ⟨l1, l2⟩ := hlt
      have l1' : (k : Int) < (len : Int) := by omega
      have l2' : (k : Int) < 64 := by omega
      have hbS : ¬ b = w.heap.size := by omega
      have HS := Lib.hid hS; have HB := Lib.hid hb
      clear hS hb hC
      go_wp2
      go_region
      have hb1 : 0 ≤ IntKind.u64.wrap (bits .xor .u64 mix v * 1099511628211) ∧ IntKind.u64.wrap (bits .xor .u64 mix v * 1099511628211) < 18446744073709551616 := by rw [IntKind.wrap_u64]; omega
      generalize IntKind.u64.wrap (bits .xor .u64 mix v * 1099511628211) = m1 at *
      clear v3
      go_wp2
      go_roundw
      case rel => exact ⟨k + 1, m1, by go_num, by omega, four_set2 HS.out _, hb1.1, hb1.2, (HB.out.setCell (Nat.le_refl _) _).drew⟩
      case measure => simp [intOf]; omega
    · have hd : (len : Int) ≤ k ∨ ((k : Int) < len ∧ (64 : Int) ≤ k) := by omega
      have hs1 : (0 : Int) ≤ (len : Int) / 20 := by omega
      have HS := Lib.hid hS; have HB := Lib.hid hb
      clear hS hb hC hlt
      by_cases h12 : 12 < (len : Int) / 20
      · rcases hd with hd | ⟨hd, hd'⟩
        all_goals
          go_wp2
          go_ret
          refine ⟨rfl, ?_, ⟨0, mix, 12, ?_, by omega, hm1, hm2, by omega, by omega⟩, ?_⟩
          · exact (HB.out.setCell (Nat.le_refl _) _).setCell (Nat.le_refl _) _
          · exact four_set3 (four_set3 HS.out _) _
          · exact HC.out.below ((HB.out.setCell (Nat.le_refl _) _).setCell (Nat.le_refl _) _)
      · rcases hd with hd | ⟨hd, hd'⟩
        all_goals
          go_wp2
          go_ret
          refine ⟨rfl, ?_, ⟨0, mix, (len : Int) / 20, ?_, by omega, hm1, hm2, hs1, by omega⟩, ?_⟩
          · exact HB.out.setCell (Nat.le_refl _) _
          · exact four_set3 HS.out _
          · exact HC.out.below (HB.out.setCell (Nat.le_refl _) _)

end Go.Proofs.YthchlfllcnlmjaaGreatDoor

/-! Noughts made. -/
namespace Go.Proofs.YthchlfllcnlmjaaGreatDoor
open Go.ChangeShapes Go.WideShapes Go.ChangeAt Go.RowKit

/-- 'make([]byte, n)': so many noughts. -/
theorem make_noughts (n : Nat) (h : n ≤ 281474976710656) (N : Int) (hN : N = n) : ∃ M : Array Value, M.toList.take n = bvals (List.replicate n 0) ∧ ∀ W : World, (Instr.makeSlice 22 (.int .i64 N) (.int .i64 N)).run Tryz.prog W = .ok (.slice (some ⟨W.heap.size, 0, none⟩) n n) (W.alloc (.cells M 5)) := by
  subst hN
  obtain ⟨i0, hi, hz0, hz1, hz2⟩ := info_parts infoU8s
  refine ⟨madeCells (Value.int .u8 0).cells ((n : Int).toNat * i0.size), ?_, fun W => ?_⟩
  · rw [hz1, Nat.mul_one, Int.toNat_natCast]
    have e : (Value.int .u8 0).cells = #[Value.int .u8 0] := rfl
    rw [e, toList_madeCells_one, List.take_of_length_le (by simp)]
    simp [bvals, bval]
  · have h := run_make (P := Tryz.prog) W 22 5 i0 (.int .u8 0) Tryz.underlying22 hi hz0 .i64 .i64 (n : Int) (n : Int) (by omega) (by omega) (by rw [hz2]; omega) (by omega)
    simpa using h

def SomeStr (m : Nat) (w : World) (e : Ending) (w' : World) : Prop := ∃ t : ByteArray, e = .returned (.string t) ∧ t.size ≤ m ∧ Below w.heap.size w w'

theorem str_size (l : List UInt8) : (ByteArray.mk l.toArray).size = l.length := rfl

end Go.Proofs.YthchlfllcnlmjaaGreatDoor

/-! A slice of bytes that came in, as a walk is told of it. -/
namespace Go.Proofs.YthchlfllcnlmjaaGreatDoor
open Go.ChangeShapes Go.WideShapes Go.ChangeAt Go.RowKit

/-- It is nil; or it leads to a row of 'cap' cells, the numbers 'zs' (the first 'len' are its elements), each fitting its kind. -/
def IsRow (k : IntKind) (w : World) (a : Option Addr) (len cap : Nat) (zs : List Int) : Prop :=
  (a = none ∧ len = 0 ∧ cap = 0 ∧ zs = []) ∨
  ∃ x, a = some x ∧ len ≤ cap ∧ cap ≤ maxLen ∧ zs.length = cap ∧ (∀ i, i < zs.length → w.cell? (x.add i) = some (.int k (zs.getD i 0))) ∧ ∀ n ∈ zs, (Lit.int k n).wf = true

theorem Code.up {w : World} {B C : Nat} {cv : Value} {len : Nat} (h : Code w B cv len) (hB : B ≤ C) : Code w C cv len := by
  obtain ⟨a, cap, rfl, hl, h⟩ := h
  exact ⟨a, cap, rfl, hl, h.imp id fun ⟨b, off, ha, hb, hc⟩ => ⟨b, off, ha, by omega, hc⟩⟩

theorem IsRow.code {w : World} {a : Option Addr} {len cap : Nat} {zs : List Int} (h : IsRow .u8 w a len cap zs) (hl : len ≤ 1048576) : Code w w.heap.size (.slice a len cap) len := by
  refine ⟨a, cap, rfl, hl, ?_⟩
  rcases h with ⟨rfl, rfl, rfl, rfl⟩ | ⟨x, rfl, h1, h2, h3, h4, h5⟩
  · exact .inl rfl
  · by_cases h0 : len = 0
    · exact .inl h0
    · obtain ⟨b, off, spot⟩ := x
      have hc0 := h4 0 (by omega)
      have hspot : spot = none := by simpa [Addr.add] using World.cell?_spot hc0
      subst hspot
      refine .inr ⟨b, off, rfl, ?_, fun i hi => ?_⟩
      · rcases Nat.lt_or_ge b w.heap.size with h | h
        · exact h
        · simp [World.cell?, Addr.add, Array.getElem?_eq_none h] at hc0
      · have hi' : i < zs.length := by omega
        have hc := h4 i hi'
        have hm : zs.getD i 0 ∈ zs := by
          rw [List.getD_eq_getElem?_getD, List.getElem?_eq_getElem hi']
          exact List.getElem_mem hi'
        have hw := bounds_u8 (h5 _ hm)
        refine ⟨zs.getD i 0, by omega, by omega, ?_⟩
        have e : ((⟨b, off, none⟩ : Addr).add i) = ⟨b, off + i, none⟩ := by
          unfold Addr.add
          split
          · next h => simp_all
          · rfl
        rw [← e]
        exact hc

end Go.Proofs.YthchlfllcnlmjaaGreatDoor
