/-
  The contract of the making of a source of draws.
-/
import Derived.Test.YtdllbnlimnahaaaDrawS
namespace Go.Proofs.Ytdllbnlimnahaaa
open Go.ChangeShapes Go.WideShapes Go.ChangeAt Go.RowKit

def SrcMade (w : World) (cv : Value) (len : Nat) (e : Ending) (w' : World) : Prop :=
  e = .returned (.pointer (some ⟨w.heap.size, 0, none⟩)) ∧ Below w.heap.size w w' ∧ Src w' w.heap.size cv len ∧ Code w' w.heap.size cv len

theorem Code.below {w w' : World} {B : Nat} {cv : Value} {len : Nat} (h : Code w B cv len) (hg : Below B w w') : Code w' B cv len := by
  obtain ⟨a, cap, rfl, hl, h⟩ := h
  refine ⟨a, cap, rfl, hl, h.imp id ?_⟩
  rintro ⟨b, off, rfl, hb, hc⟩
  refine ⟨b, off, rfl, hb, fun i hi => ?_⟩
  obtain ⟨v, h1, h2, h3⟩ := hc i hi
  exact ⟨v, h1, h2, by rw [hg.cell (p := ⟨b, off + i, none⟩) hb]; exact h3⟩
theorem Code.form {w : World} {B : Nat} {cv : Value} {len : Nat} (h : Code w B cv len) : ∃ a cap, cv = .slice a len cap ∧ len ≤ 1048576 := by
  obtain ⟨a, cap, h1, h2, _⟩ := h
  exact ⟨a, cap, h1, h2⟩
theorem Code.get {w : World} {B : Nat} {a : Option Addr} {len cap : Nat} (h : Code w B (.slice a len cap) len) (i : Nat) (hi : i < len) : ∃ b off v, a = some ⟨b, off, none⟩ ∧ b < B ∧ (0 : Int) ≤ v ∧ v < 256 ∧ w.cell? ⟨b, off + i, none⟩ = some (.int .u8 v) := by
  obtain ⟨a', cap', h1, h2, h⟩ := h
  simp only [Value.slice.injEq] at h1
  obtain ⟨rfl, _, rfl⟩ := h1
  obtain ⟨b, off, ha, hb, hc⟩ := h.resolve_left (by omega)
  obtain ⟨v, h1, h2, h3⟩ := hc i hi
  exact ⟨b, off, v, ha, hb, h1, h2, h3⟩

set_option maxRecDepth 100000 in
set_option maxHeartbeats 4000000 in
theorem draw_source (cv : Value) (len : Nat) (w : World) (hC : Code w w.heap.size cv len) :
    Calls Try.prog 28 #[cv] w (SrcMade w cv len) := by
  obtain ⟨a, cap, rfl, hl⟩ := hC.form
  have HC := Lib.hid hC; clear hC
  go_enter Try.func28, Try.ntmps28
  go_wp2
  go_loopw [4] (fun i wr => ∃ (k : Nat) (mix : Int), i = .int .i64 k ∧ k ≤ len ∧ wr.heap[w.heap.size]? = some (.cells #[.slice a len cap, .int .i64 0, .int .u64 mix, .int .i64 0] 82 (0, 0)) ∧ 0 ≤ mix ∧ mix < 18446744073709551616 ∧ Below w.heap.size w wr) (fun i _ => len - (intOf i).toNat)
  case atStart => exact ⟨0, _, rfl, by omega, heap_alloc_new _ _, by omega, by omega, (Below.refl _ _).alloc (Nat.le_refl _) _⟩
  case round =>
    obtain ⟨k, mix, rfl, hk, hS, hm1, hm2, hb⟩ := hrel
    have hC := HC.out.below hb
    obtain ⟨c0, c1, c2, c3, f1, f2, f3⟩ := four_read hS
    have hlt0 := block_lt hS
    by_cases hlt : k < len ∧ k < 64
    · obtain ⟨b, off, v, rfl, hbB, v1, v2, v3⟩ := hC.get k hlt.1
      obtain ⟨l1, l2⟩ := hlt
      have l1' : (k : Int) < (len : Int) := by omega
      have l2' : (k : Int) < 64 := by omega
      have hbS : ¬ b = w.heap.size := by omega
      have HS := Lib.hid hS; have HB := Lib.hid hb
      clear hS hb hC
      go_wp2
      go_region
      have hb1 : 0 ≤ IntKind.u64.wrap (bits .xor .u64 mix v * 1099511628211) ∧ IntKind.u64.wrap (bits .xor .u64 mix v * 1099511628211) < 18446744073709551616 := by rw [IntKind.wrap_u64]; omega
      generalize IntKind.u64.wrap (bits .xor .u64 mix v * 1099511628211) = m1 at *
      clear v3
      go_wp2
      go_roundw
      case rel => exact ⟨k + 1, m1, by go_num, by omega, four_set2 HS.out _, hb1.1, hb1.2, (HB.out.setCell (Nat.le_refl _) _).drew⟩
      case measure => simp [intOf]; omega
    · have hd : (len : Int) ≤ k ∨ ((k : Int) < len ∧ (64 : Int) ≤ k) := by omega
      have hs1 : (0 : Int) ≤ (len : Int) / 20 := by omega
      have HS := Lib.hid hS; have HB := Lib.hid hb
      clear hS hb hC hlt
      by_cases h12 : 12 < (len : Int) / 20
      · rcases hd with hd | ⟨hd, hd'⟩
        all_goals
          go_wp2
          go_ret
          refine ⟨rfl, ?_, ⟨0, mix, 12, ?_, by omega, hm1, hm2, by omega, by omega⟩, ?_⟩
          · exact (HB.out.setCell (Nat.le_refl _) _).setCell (Nat.le_refl _) _
          · exact four_set3 (four_set3 HS.out _) _
          · exact HC.out.below ((HB.out.setCell (Nat.le_refl _) _).setCell (Nat.le_refl _) _)
      · rcases hd with hd | ⟨hd, hd'⟩
        all_goals
          go_wp2
          go_ret
          refine ⟨rfl, ?_, ⟨0, mix, (len : Int) / 20, ?_, by omega, hm1, hm2, hs1, by omega⟩, ?_⟩
          · exact HB.out.setCell (Nat.le_refl _) _
          · exact four_set3 HS.out _
          · exact HC.out.below (HB.out.setCell (Nat.le_refl _) _)

end Go.Proofs.Ytdllbnlimnahaaa
