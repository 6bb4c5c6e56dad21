/-
  Contracts of the draws: what a source of draws does to memory, and within which bounds its numbers lie.
-/
import Derived.Test.YtdllbnlimnahaaaProg
import Derived.Test.YtdllbnlimnahaaaLaws
import Derived.ProofKit
import Derived.BigQuiet
import Derived.IntWalk
import Derived.Deep.QuietTactic
import Derived.RegionTactic
import Derived.BigRegion
import Derived.WalkSmall
import Derived.Maps.AppendAt
namespace Go.Proofs.Ytdllbnlimnahaaa
open Go.ChangeShapes Go.WideShapes Go.ChangeAt Go.RowKit

/-- A slice of bytes that came in, below block B: of so many bytes. -/
def Code (w : World) (B : Nat) (cv : Value) (len : Nat) : Prop :=
  ∃ a cap, cv = .slice a len cap ∧ len ≤ 1048576 ∧ (len = 0 ∨ ∃ b off, a = some ⟨b, off, none⟩ ∧ b < B ∧ ∀ i, i < len → ∃ v : Int, 0 ≤ v ∧ v < 256 ∧ w.cell? ⟨b, off + i, none⟩ = some (.int .u8 v))

/-- A source of draws at block S over that slice. -/
def Src (w : World) (S : Nat) (cv : Value) (len : Nat) : Prop :=
  ∃ (at_ : Nat) (mix size : Int), w.heap[S]? = some (.cells #[cv, .int .i64 (at_ : Int), .int .u64 mix, .int .i64 size] 82 (0, 0)) ∧ at_ ≤ len ∧ 0 ≤ mix ∧ mix < 18446744073709551616 ∧ 0 ≤ size ∧ size ≤ 12

theorem Code.on {w w' : World} {B : Nat} {cv : Value} {len : Nat} (h : Code w B cv len) (hg : w.grownBy w' (some B)) : Code w' B cv len := by
  obtain ⟨a, cap, rfl, hl, h⟩ := h
  refine ⟨a, cap, rfl, hl, h.imp id ?_⟩
  rintro ⟨b, off, rfl, hb, hc⟩
  refine ⟨b, off, rfl, hb, fun i hi => ?_⟩
  obtain ⟨v, h1, h2, h3⟩ := hc i hi
  exact ⟨v, h1, h2, hg.cell h3 (by simp; omega)⟩

theorem bits_range (op : BinOp) (x y : Int) : 0 ≤ bits op .u64 x y ∧ bits op .u64 x y < 18446744073709551616 := by
  unfold bits
  rw [IntKind.wrap_u64]
  omega

/-! The four cells of a source: read, written, behind draws. -/
theorem four_read {w : World} {S : Nat} {x0 x1 x2 x3 : Value} {T : TypeId} (h : w.heap[S]? = some (.cells #[x0, x1, x2, x3] T (0, 0))) :
    w.cell? ⟨S, 0, none⟩ = some x0 ∧ w.cell? ⟨S, 1, none⟩ = some x1 ∧ w.cell? ⟨S, 2, none⟩ = some x2 ∧ w.cell? ⟨S, 3, none⟩ = some x3 ∧ w.frozen? ⟨S, 1, none⟩ = false ∧ w.frozen? ⟨S, 2, none⟩ = false ∧ w.frozen? ⟨S, 3, none⟩ = false := by
  refine ⟨?_, ?_, ?_, ?_, block_free h 1, block_free h 2, block_free h 3⟩ <;> simp [World.cell?, h]
theorem grownBy_set (w : World) (S k : Nat) (v : Value) : w.grownBy (w.setCell ⟨S, k, none⟩ v) (some S) :=
  ⟨rfl, rfl, rfl, by simp [World.setCell], fun j _ hj => Below.heap_setCell _ _ _ _ (fun e => hj (by simp [e]))⟩
theorem grownBy_trans {w w1 w2 : World} {r : Option Nat} (h : w.grownBy w1 r) (k : w1.grownBy w2 r) : w.grownBy w2 r :=
  ⟨k.os.trans h.os, k.tape.trans h.tape, k.output.trans h.output, Nat.le_trans h.size k.size, fun j hj hr => (k.block j (Nat.lt_of_lt_of_le hj h.size) hr).trans (h.block j hj hr)⟩
theorem grownBy_drew {w w1 : World} {r : Option Nat} (h : w.grownBy w1 r) : w.grownBy w1.drew r := ⟨h.os, h.tape, h.output, h.size, h.block⟩
theorem four_set1 {w : World} {S : Nat} {x0 x1 x2 x3 : Value} {T : TypeId} (h : w.heap[S]? = some (.cells #[x0, x1, x2, x3] T (0, 0))) (v : Value) : (w.setCell ⟨S, 1, none⟩ v).heap[S]? = some (.cells #[x0, v, x2, x3] T (0, 0)) := block_set h 1 v
theorem four_set2 {w : World} {S : Nat} {x0 x1 x2 x3 : Value} {T : TypeId} (h : w.heap[S]? = some (.cells #[x0, x1, x2, x3] T (0, 0))) (v : Value) : (w.setCell ⟨S, 2, none⟩ v).heap[S]? = some (.cells #[x0, x1, v, x3] T (0, 0)) := block_set h 2 v
theorem four_set3 {w : World} {S : Nat} {x0 x1 x2 x3 : Value} {T : TypeId} (h : w.heap[S]? = some (.cells #[x0, x1, x2, x3] T (0, 0))) (v : Value) : (w.setCell ⟨S, 3, none⟩ v).heap[S]? = some (.cells #[x0, x1, x2, v] T (0, 0)) := block_set h 3 v

theorem ret_i64 {a b : Int} (h : a = b) : Ending.returned (.int .i64 a) = .returned (.int .i64 b) := by rw [h]
theorem rem_range (x most : Int) (hm : 1 < most) : 0 ≤ x % most ∧ x % most < most := ⟨Int.emod_nonneg _ (by omega), Int.emod_lt_of_pos _ (by omega)⟩

set_option maxRecDepth 100000 in
set_option maxHeartbeats 4000000 in
theorem draw_n (S : Nat) (cv : Value) (len : Nat) (most : Int) (w : World) (hS : Src w S cv len) (hC : Code w S cv len) (hm : 1 < most) (hm2 : most ≤ 4611686018427387904) :
    Calls Try.prog 30 #[.pointer (some ⟨S, 0, none⟩), .int .i64 most] w fun e w' => ∃ r : Int, e = .returned (.int .i64 r) ∧ 0 ≤ r ∧ r < most ∧ w.grownBy w' (some S) ∧ Src w' S cv len := by
  obtain ⟨at_, mix, size, hS, h1, h2, h3, h4, h5⟩ := hS
  obtain ⟨a, cap, rfl, hl, hC⟩ := hC
  obtain ⟨c0, c1, c2, c3, f1, f2, _⟩ := four_read hS
  have hm' : ¬ most ≤ 1 := by omega
  by_cases hlt : at_ < len
  · obtain ⟨b, off, rfl, hb, hc⟩ := hC.resolve_left (by omega)
    obtain ⟨v, v1, v2, v3⟩ := hc at_ hlt
    clear hc hC
    have hlt' : (at_ : Int) < (len : Int) := by omega
    have HS := Lib.hid hS; clear hS
    have hbS : ¬ b = S := by omega
    go_enter Try.func30, Try.ntmps30
    go_wp2
    go_region
    go_wp2
    go_region
    go_wp2_with fail
    have HS0 : Hid (((w.setCell ⟨S, 1, none⟩ (.int .i64 ((at_ : Int) + 1))).drew.drew).heap[S]? = _) := Lib.hid (four_set1 HS.out (.int .i64 ((at_ : Int) + 1)))
    have HG0 : Hid (w.grownBy ((w.setCell ⟨S, 1, none⟩ (.int .i64 ((at_ : Int) + 1))).drew.drew) (some S)) := Lib.hid (grownBy_drew (grownBy_drew (grownBy_set w S 1 _)))
    generalize (w.setCell ⟨S, 1, none⟩ (.int .i64 ((at_ : Int) + 1))).drew.drew = w0 at *
    clear c0 c1 c2 c3 f1 f2 HS v3
    obtain ⟨c0, c1, c2, c3, f1, f2, _⟩ := four_read HS0.out
    go_region
    obtain ⟨g1, g2⟩ := bits_range .xor mix (IntKind.u64.wrap (mix * 8192))
    generalize bits .xor .u64 mix (IntKind.u64.wrap (mix * 8192)) = m1 at *
    have HS1 : Hid (((w0.setCell ⟨S, 2, none⟩ (.int .u64 m1)).drew).heap[S]? = _) := Lib.hid (four_set2 HS0.out (.int .u64 m1))
    have HG1 : Hid (w.grownBy ((w0.setCell ⟨S, 2, none⟩ (.int .u64 m1)).drew) (some S)) := Lib.hid (grownBy_trans HG0.out (grownBy_drew (grownBy_set w0 S 2 _)))
    generalize (w0.setCell ⟨S, 2, none⟩ (.int .u64 m1)).drew = w1 at *
    clear c0 c1 c2 c3 f1 f2 HS0 HG0
    obtain ⟨c0, c1, c2, c3, f1, f2, _⟩ := four_read HS1.out
    go_wp2
    go_region
    obtain ⟨g3, g4⟩ := bits_range .xor m1 (m1 / 128)
    generalize bits .xor .u64 m1 (m1 / 128) = m2 at *
    have HS2 : Hid (((w1.setCell ⟨S, 2, none⟩ (.int .u64 m2)).drew).heap[S]? = _) := Lib.hid (four_set2 HS1.out (.int .u64 m2))
    have HG2 : Hid (w.grownBy ((w1.setCell ⟨S, 2, none⟩ (.int .u64 m2)).drew) (some S)) := Lib.hid (grownBy_trans HG1.out (grownBy_drew (grownBy_set w1 S 2 _)))
    generalize (w1.setCell ⟨S, 2, none⟩ (.int .u64 m2)).drew = w2 at *
    clear c0 c1 c2 c3 f1 f2 HS1 HG1
    obtain ⟨c0, c1, c2, c3, f1, f2, _⟩ := four_read HS2.out
    go_wp2
    go_region
    obtain ⟨g5, g6⟩ := bits_range .xor m2 (IntKind.u64.wrap (m2 * 131072))
    generalize bits .xor .u64 m2 (IntKind.u64.wrap (m2 * 131072)) = m3 at *
    have HS3 : Hid (((w2.setCell ⟨S, 2, none⟩ (.int .u64 m3)).drew).heap[S]? = _) := Lib.hid (four_set2 HS2.out (.int .u64 m3))
    have HG3 : Hid (w.grownBy ((w2.setCell ⟨S, 2, none⟩ (.int .u64 m3)).drew) (some S)) := Lib.hid (grownBy_trans HG2.out (grownBy_drew (grownBy_set w2 S 2 _)))
    generalize (w2.setCell ⟨S, 2, none⟩ (.int .u64 m3)).drew = w3 at *
    clear c0 c1 c2 c3 f1 f2 HS2 HG2
    obtain ⟨c0, c1, c2, c3, f1, f2, _⟩ := four_read HS3.out
    go_wp2
    go_ret
    have hr := rem_range (v + m3 / 1048576) most hm
    generalize (v + m3 / 1048576) % most = r at *
    have er : wrap64 r = r := by unfold wrap64; omega
    exact ⟨r, ret_i64 er, hr.1, hr.2, HG3.out, at_ + 1, m3, size, HS3.out, by omega, g5, g6, h4, h5⟩
  · have hlt' : ¬ (at_ : Int) < (len : Int) := by omega
    clear hC
    have HS := Lib.hid hS; clear hS
    go_enter Try.func30, Try.ntmps30
    go_wp2
    go_region
    go_wp2
    go_region
    obtain ⟨g1, g2⟩ := bits_range .xor mix (IntKind.u64.wrap (mix * 8192))
    generalize bits .xor .u64 mix (IntKind.u64.wrap (mix * 8192)) = m1 at *
    have HS1 : Hid (((w.setCell ⟨S, 2, none⟩ (.int .u64 m1)).drew.drew).heap[S]? = _) := Lib.hid (four_set2 HS.out (.int .u64 m1))
    have HG1 : Hid (w.grownBy ((w.setCell ⟨S, 2, none⟩ (.int .u64 m1)).drew.drew) (some S)) := Lib.hid (grownBy_drew (grownBy_drew (grownBy_set w S 2 _)))
    generalize (w.setCell ⟨S, 2, none⟩ (.int .u64 m1)).drew.drew = w1 at *
    clear c0 c1 c2 c3 f1 f2 HS
    obtain ⟨c0, c1, c2, c3, f1, f2, _⟩ := four_read HS1.out
    go_wp2
    go_region
    obtain ⟨g3, g4⟩ := bits_range .xor m1 (m1 / 128)
    generalize bits .xor .u64 m1 (m1 / 128) = m2 at *
    have HS2 : Hid (((w1.setCell ⟨S, 2, none⟩ (.int .u64 m2)).drew).heap[S]? = _) := Lib.hid (four_set2 HS1.out (.int .u64 m2))
    have HG2 : Hid (w.grownBy ((w1.setCell ⟨S, 2, none⟩ (.int .u64 m2)).drew) (some S)) := Lib.hid (grownBy_trans HG1.out (grownBy_drew (grownBy_set w1 S 2 _)))
    generalize (w1.setCell ⟨S, 2, none⟩ (.int .u64 m2)).drew = w2 at *
    clear c0 c1 c2 c3 f1 f2 HS1 HG1
    obtain ⟨c0, c1, c2, c3, f1, f2, _⟩ := four_read HS2.out
    go_wp2
    go_region
    obtain ⟨g5, g6⟩ := bits_range .xor m2 (IntKind.u64.wrap (m2 * 131072))
    generalize bits .xor .u64 m2 (IntKind.u64.wrap (m2 * 131072)) = m3 at *
    have HS3 : Hid (((w2.setCell ⟨S, 2, none⟩ (.int .u64 m3)).drew).heap[S]? = _) := Lib.hid (four_set2 HS2.out (.int .u64 m3))
    have HG3 : Hid (w.grownBy ((w2.setCell ⟨S, 2, none⟩ (.int .u64 m3)).drew) (some S)) := Lib.hid (grownBy_trans HG2.out (grownBy_drew (grownBy_set w2 S 2 _)))
    generalize (w2.setCell ⟨S, 2, none⟩ (.int .u64 m3)).drew = w3 at *
    clear c0 c1 c2 c3 f1 f2 HS2 HG2
    obtain ⟨c0, c1, c2, c3, f1, f2, _⟩ := four_read HS3.out
    go_wp2
    go_ret
    have hr := rem_range (m3 / 1048576) most hm
    generalize (m3 / 1048576) % most = r at *
    have er : wrap64 r = r := by unfold wrap64; omega
    exact ⟨r, ret_i64 er, hr.1, hr.2, HG3.out, at_, m3, size, HS3.out, by omega, g5, g6, h4, h5⟩

end Go.Proofs.Ytdllbnlimnahaaa
