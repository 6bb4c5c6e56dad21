/-
  The draw of a list of numbers: l02Keep.
-/
import Derived.Test.YtdllbnlimnahaaaDrawE
import Derived.Test.YtdllbnlimnahaaaAppend
import Derived.Test.YtdllbnlimnahaaaSingle
import Derived.Test.YtdllbnlimnahaaaIntsA
namespace Go.Proofs.Ytdllbnlimnahaaa
open Go.ChangeShapes Go.WideShapes Go.ChangeAt Go.RowKit

theorem intType : SlType Try.prog 32 2 1 8 := sl_type Try.underlying32 infoI64 rfl (by omega)
theorem encI_one : ∀ x, ∀ u ∈ encI x, u.oneCell' = true := fun x u hu => by simp [encI] at hu; subst hu; rfl

/-- A list of some numbers of the call's own. -/
def SomeKeep (w : World) (S : Nat) (cv : Value) (len : Nat) (e : Ending) (w' : World) : Prop :=
  ∃ (v : Value) (l : List Int), e = .returned v ∧ Ow w' w.heap.size 2 1 encI v l ∧ l.length ≤ 14 ∧ w.grownBy w' (some S) ∧ Src w' S cv len

set_option maxRecDepth 100000 in
set_option maxHeartbeats 2000000 in
theorem draw_keep (S : Nat) (cv : Value) (len : Nat) (w : World) (hS : Src w S cv len) (hC : Code w S cv len) :
    Calls Try.prog 37 #[.pointer (some ⟨S, 0, none⟩)] w (SomeKeep w S cv len) := by
  have HS := Lib.hid hS; have HC := Lib.hid hC
  have hSl : S < w.heap.size := hS.lt
  clear hS hC
  go_enter Try.func37, Try.ntmps37
  go_wp2_with fail
  refine (draw_n S cv len 14 _ (HS.out.keep (Below.heap_alloc _ _ _ hSl)) (HC.out.on (World.grownBy_alloc _ _ _)) (by omega) (by omega)).mono ?_
  rintro e w1 ⟨r, rfl, r0, r1, hg1, hS1⟩
  have HG1 := Lib.hid (grown_trans (World.grownBy_alloc w (.cells #[] 2) (some S)) hg1)
  have HS1 := Lib.hid hS1
  have HO1 := Lib.hid (World.ownsRow.kept (own_empty (heap_alloc_new w (.cells #[] 2)) w.heap.size 1 (Nat.le_refl _)) hg1 (.inr (fun e => by have e' : w.heap.size = S := Option.some.inj e; omega)))
  have hz1 := hg1.size
  simp only [World.size_alloc] at hz1
  clear hg1 hS1
  obtain ⟨n, rfl⟩ := Int.eq_ofNat_of_zero_le r0
  go_wp2
  go_loopw [3, 4] (fun v i wr => ∃ (k m : Nat) (A : Option Addr) (c : Nat) (l : List Int), i = .int .i64 (k : Int) ∧ v = .slice A m c ∧ m = l.length ∧ k + m ≤ 14 ∧ wr.ownsRow w.heap.size 2 1 (.slice A m c) m (l.flatMap encI) ∧ w.grownBy wr (some S) ∧ Src wr S cv len) (fun _ i _ => (intOf i).toNat)
  case atStart => exact ⟨n, 0, _, _, [], rfl, rfl, rfl, by omega, HO1.out, HG1.out, HS1.out⟩
  case round =>
    clear HG1 HS1 HO1 hz1
    obtain ⟨k, m, A, c, l, rfl, rfl, hm, hk, ho, hg, hs⟩ := hrel
    have HM := Lib.hid hm
    have hm1 : m ≤ 14 := by omega
    have HO := Lib.hid ho; have HG := Lib.hid hg; have HSR := Lib.hid hs
    have hzr := hg.size
    clear hm ho hg hs
    by_cases hlt : 0 < k
    · have HCR := Lib.hid (HC.out.on HG.out)
      go_wp2_with fail
      refine (draw_n S cv len 2 _ HSR.out HCR.out (by omega) (by omega)).mono ?_
      rintro e w2 ⟨q, rfl, q0, q1, hg2, hS2⟩
      have HG2 := Lib.hid (grown_trans HG.out hg2)
      have HS2 := Lib.hid hS2
      have HO2 := Lib.hid (World.ownsRow.kept HO.out hg2 (by
        cases h : (Value.slice A m c).ownBlock with
        | none => exact .inl rfl
        | some g => exact .inr (fun e => by have := (World.ownsRow.lt HO.out g h).1; have e' : g = S := Option.some.inj e; omega)))
      have hz2 := hg2.size
      clear hg2 hS2
      go_wp2_with (at_builtin; refine list_append_sl intType _ rfl (.tmp 12) (.tmp 15) rfl w.heap.size (.slice A m c) m _ rfl (World.ownsRow.alloc HO2.out _) _ encI _ [q] rfl (sl_single (heap_at rfl) 1 encI q rfl) encI_len encI_one (by simp; unfold maxLen; omega) (by simp; omega) (by simp; omega) ?_; intro v3 w3 g3; obtain ⟨A', c', rfl⟩ := g3.form; have GO := Lib.hid g3.1; have GG := Lib.hid g3.2.1; clear g3)
      go_roundw
      case rel =>
        have hy : w.grownBy w3 (some S) := by
          refine grownBy_young (grownBy_young HG2.out (World.grownBy_alloc w2 (.cells #[.int .i64 q] 2) none) (fun j hj => by cases hj)) GG.out (fun j hj => (World.ownsRow.lt HO2.out j hj).1)
        refine ⟨k - 1, m + 1, A', c', l ++ [q], ?_, rfl, by rw [List.length_append, ← HM.out]; rfl, by omega, by rw [List.flatMap_append]; exact GO.out, hy, ?_⟩
        · have : ((k - 1 : Nat) : Int) = (k : Int) - 1 := by omega
          rw [this]
        · refine HS2.out.keep ?_
          rw [GG.out.block S (by simp; have := HS2.out.lt; omega) (fun e => by have := (World.ownsRow.lt HO2.out S e.symm).1; omega), Below.heap_alloc _ _ _ HS2.out.lt]
      case measure => simp [intOf]; omega
    · have hk0 : k = 0 := by omega
      subst hk0
      go_wp2
      go_ret
      exact ⟨_, l, rfl, by unfold Ow; rw [← HM.out]; exact HO.out, by have := HM.out; omega, HG.out, HSR.out⟩

end Go.Proofs.Ytdllbnlimnahaaa
