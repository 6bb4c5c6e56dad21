/-
  Contract of the text of a mark.
-/
import Derived.Test.YtaggmcdfggmlhaaAid
import Derived.BigQuiet
import Derived.IntWalk
import Derived.Deep.RegionWith
import Derived.RegionTactic
namespace Go.Proofs.Ytaggmcdfggmlhaa
open Go.ChangeShapes Go.WideShapes Go.ChangeAt Go.RowKit

theorem one_byte (w : World) (n : Nat) (h : n < 256) : (convert 22 9 (.slice (some ⟨w.heap.size, 0, none⟩) 1 1)).run Try.prog (w.alloc (.cells #[.int .u8 (n : Int)] 5)) = .ok (.string ⟨[UInt8.ofNat n].toArray⟩) (w.alloc (.cells #[.int .u8 (n : Int)] 5)) := by
  refine block_string (P := Try.prog) (heap_alloc_new w _) 22 5 9 Try.underlying22 Try.underlying5 Try.underlying9 [UInt8.ofNat n] 1 1 rfl ?_
  have e : (UInt8.ofNat n).toNat = n := by simp; omega
  simp [bvals, bval, e]

set_option maxRecDepth 100000 in
theorem mark_text (n : Nat) (w : World) (h0 : 0 < n) (h1 : n ≤ 1000000000) :
    Calls Try.prog 152 #[.int .i64 (n : Int)] w fun e w' => e = .returned (.string (mk n)) ∧ Below w.heap.size w w' := by
  have hd0 : decide (n = 0) = false := by simp; omega
  go_enter Try.func152, Try.ntmps152
  go_wp2
  go_loopw [0, 3] (fun x y wr => ∃ (m : Nat) (l : List UInt8), m ≤ 1000000000 ∧ x = .int .i64 (m : Int) ∧ y = .string ⟨l.toArray⟩ ∧ dg m ++ l = dg n ∧ Below w.heap.size w wr) (fun x _ _ => (intOf x).toNat)
  case atStart => exact ⟨n, [], h1, rfl, rfl, by simp, Below.refl _ _⟩
  case round =>
    obtain ⟨m, l, hm, rfl, rfl, hd, hb⟩ := hrel
    have hl : l.length ≤ 1000000000 := by
      have h := congrArg List.length hd
      have h' := dg_len n
      rw [List.length_append] at h
      omega
    have HD := Lib.hid hd; have HB := Lib.hid hb; clear hd hb
    by_cases hp : 0 < m
    · have hk := one_byte wr (48 + m % 10) (by omega)
      have hcast : ((48 + m % 10 : Nat) : Int) = 48 + (m : Int) % 10 := by omega
      rw [hcast] at hk
      clear hcast
      go_wp2
      go_roundw
      case rel => exact ⟨m / 10, (48 + UInt8.ofNat (m % 10)) :: l, by omega, by go_num, by
        have h := cat_bytes [48 + UInt8.ofNat (m % 10)] l
        exact congrArg Value.string h, by rw [← HD.out, dg_pos m hp]; simp, HB.out.alloc HB.out.size _⟩
      case measure => simp [intOf]; omega
    · have hm0 : m = 0 := by omega
      subst hm0
      go_wp2
      go_ret
      refine ⟨?_, HB.out⟩
      have := HD.out
      rw [dg_zero, List.nil_append] at this
      rw [this]
      rfl

theorem mark_textI (x : Int) (n : Nat) (w : World) (hx : x = (n : Int)) (h0 : 0 < n) (h1 : n ≤ 1000000000) :
    Calls Try.prog 152 #[.int .i64 x] w fun e w' => e = .returned (.string (mk n)) ∧ Below w.heap.size w w' := by
  subst hx
  exact mark_text n w h0 h1

end Go.Proofs.Ytaggmcdfggmlhaa
