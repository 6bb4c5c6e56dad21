/-
  Contract of the program's textFrom.
-/
import Derived.Test.YthchlfllcnlmjaaGreatDoorBld
import Derived.Test.YthchlfllcnlmjaaGreatDoorMed
import Derived.Test.YthchlfllcnlmjaaGreatDoorAReadS
import Derived.Test.YthchlfllcnlmjaaGreatDoorSent
namespace Go.Proofs.YthchlfllcnlmjaaGreatDoor
open Go.ChangeShapes Go.WideShapes Go.ChangeAt Go.RowKit

open Classical in
/-- The text of n bytes from sector f on, if each of its sectors has its part. -/
noncomputable def textP (d : Dk) (f n : Nat) : Option ByteArray := if ∀ i < partsN n, fullAt d f n i then some (gotB d f n (partsN n)) else none
theorem textP_yes {d : Dk} {f n : Nat} (h : ∀ i < partsN n, fullAt d f n i) : textP d f n = some (gotB d f n (partsN n)) := by classical unfold textP; rw [if_pos h]
theorem textP_no {d : Dk} {f n i : Nat} (hi : i < partsN n) (h : ¬ fullAt d f n i) : textP d f n = none := by classical unfold textP; rw [if_neg (fun h' => h (h' i hi))]
def textRet (a : Addr) : Option ByteArray → Value
  | some t => .tuple #[.string t, .nilIface]
  | none => .tuple #[.string ⟨#[]⟩, .iface 179 (.pointer (some a))]

theorem isb_lift {T e : TypeId} {B b : Nat} {bs : List Value} {w w' : World} (h : Lib.IsBuilder T e B b bs w) (hb : Below w.heap.size w w') : Lib.IsBuilder T e B b bs w' := by
  rcases h with ⟨h0, v, h1, h2, h3⟩ | ⟨h0, v, h1, h2, h3⟩
  · exact .inl ⟨h0, v, keep_blk hb h1, h2.below_row hb, h3⟩
  · exact .inr ⟨h0, v, keep_blk hb h1, h2.below_row hb, h3⟩

set_option maxRecDepth 100000 in
set_option maxHeartbeats 4000000 in
theorem impl_textfrom (m : Value) (d : Dk) (base f n : Nat) (a2 : Addr) (w : World) (hm : MedOwn w base m d) (hR : Right d) (hfl : ∀ i < partsN n, f + i < d.S.length) (hn : n ≤ 2016) (hs : Sent w 3 a2) :
    Calls Tryz.prog 77 #[.func (.func 74) #[m] #[], .int .i64 (f : Int), .int .i64 (n : Int)] w fun e w' => e = .returned (textRet a2 (textP d f n)) ∧ Below w.heap.size w w' := by
  have HM := Lib.hid hm; have HR := Lib.hid hR; have HFL := Lib.hid hfl; have HS := Lib.hid hs
  have HSEC := Lib.hid (fun W => impl_sectors n W (by omega))
  have HY := Lib.hid (fun h => textP_yes (d := d) (f := f) (n := n) h)
  have HNO := Lib.hid (fun i h1 h2 => textP_no (d := d) (f := f) (n := n) (i := i) h1 h2)
  clear hm hR hfl hs
  go_enter Tryz.func77, Tryz.ntmps77
  go_wp2_with fail
  refine (HSEC.out _).mono ?_
  rintro e w1 ⟨rfl, hb⟩
  have HX := Lib.hid (keep_blk hb (heap_alloc_new _ _))
  have HB := Lib.hid (below_alloc_call (Below.refl w.heap.size w) (Nat.le_refl _) hb)
  clear hb
  go_wp2
  go_loopw [14] (fun i wr => ∃ k : Nat, k ≤ partsN n ∧ i = .int .i64 (k : Int) ∧ (∀ j < k, fullAt d f n j) ∧ Lib.IsBuilder 130 5 w.heap.size w.heap.size (Lib.strCells (gotB d f n k)) wr ∧ Below w.heap.size w wr) (fun i _ => partsN n + 1 - (intOf i).toNat)
  case atStart =>
    refine ⟨0, Nat.zero_le _, rfl, fun j hj => absurd hj (by omega), .inl ⟨Nat.le_refl _, _, HX.out, World.ownsRow_nil _ _ _ _, by simp [Value.ownBlock]⟩, HB.out⟩
  case round =>
    clear HB HX
    obtain ⟨k, hk, rfl, hf, hbl, hb⟩ := hrel
    have HF := Lib.hid hf; have HBL := Lib.hid hbl; have HB := Lib.hid hb
    clear hf hbl hb
    have hpn : partsN n ≤ 32 := by unfold partsN; omega
    by_cases hlt : k < partsN n
    · have hlt' : (k : Int) < ((partsN n : Nat) : Int) := by omega
      have hfl := HFL.out k hlt
      have hS := HR.out.2.1
      obtain ⟨tk, htk⟩ : ∃ x, x = readT d (f + k) := ⟨_, rfl⟩
      have HTK := Lib.hid htk
      have hw1 : IntKind.i64.wrap ((f : Int) + (k : Int)) = (f : Int) + (k : Int) := IntWalk.i64_in _ (by omega)
      have hw3 : IntKind.i64.wrap ((k : Int) * 64) = (k : Int) * 64 := IntWalk.i64_in _ (by omega)
      have HMR := Lib.hid (fun W (h : Below w.heap.size w W) => (show Calls Tryz.prog 74 #[m, .int .i64 ((f : Int) + (k : Int))] W fun e w' => e = .returned (.string tk) ∧ Below W.heap.size W w' by
        rw [htk]
        exact impl_medread m d (f + k) W base (med_lift HM.out h) hfl (by omega)))
      obtain ⟨pk, hpk⟩ : ∃ x, x = partN n k := ⟨_, rfl⟩
      have hpk1 : 1 ≤ pk ∧ pk ≤ 64 ∧ 64 * k + pk = min n (64 * (k + 1)) := by unfold partN partsN at *; omega
      have hmin : min 64 ((n : Int) - (k : Int) * 64) = (pk : Int) := by unfold partN at hpk; omega
      have hw2 : IntKind.i64.wrap ((n : Int) - (k : Int) * 64) = (n : Int) - (k : Int) * 64 := IntWalk.i64_in _ (by omega)
      have HFU := Lib.hid (show fullAt d f n k ↔ pk ≤ tk.size by unfold fullAt; rw [hpk, htk])
      have htz := readT_size HR.out (f + k) hfl
      rw [← htk] at htz
      have HPK := Lib.hid hpk1; have HPP := Lib.hid hpk
      have hpk2 := hpk1.2.1
      clear hpk hpk1 htk
      go_wp2_with fail
      refine (HMR.out _ HB.out).mono ?_
      rintro e w2 ⟨rfl, hb⟩
      have HB2 := Lib.hid (below_call HB.out HB.out.size hb)
      have HX2 := Lib.hid hb
      clear hb
      by_cases hpt : pk ≤ tk.size
      · have hpt1 : ¬ (tk.size : Int) < (pk : Int) := by omega
        have hpt2 : (pk : Int) ≤ (tk.size : Int) := by omega
        have hk32 : k ≤ 32 := by omega
        have HLEN := Lib.hid (show (Lib.strCells (gotB d f n k)).length + (tk.extract 0 pk).size ≤ 140737488355328 by
          have := got_size k HF.out
          rw [Lib.strCells_length, this, ByteArray.size_extract]
          omega)
        go_wp2_with fail
        refine (bld_write w.heap.size w.heap.size _ (tk.extract 0 pk) _ (isb_lift HBL.out HX2.out) HLEN.out HB2.out.size).mono ?_
        rintro e w3 ⟨rfl, h1, hb1⟩
        have HBL3 := Lib.hid h1
        have HB3 := Lib.hid (HB2.out.trans hb1)
        clear h1 hb1
        go_wp2
        go_roundw
        case rel =>
          have hxs : Lib.strCells (gotB d f n k) ++ Lib.strCells (tk.extract 0 pk) = Lib.strCells (gotB d f n (k + 1)) := by
            show _ = Lib.strCells (catB _ _)
            rw [strCells_cat, HTK.out, ← HPP.out]
          refine ⟨k + 1, by omega, by go_num, fun j hj => ?_, ?_, HB3.out⟩
          · by_cases hjk : j = k
            · rw [hjk]; exact HFU.out.2 hpt
            · exact HF.out j (by omega)
          · have h := HBL3.out
            rw [hxs] at h
            exact .inr h
        case measure => simp [intOf]; omega
      · have hpt1 : (tk.size : Int) < (pk : Int) := by omega
        have HE := Lib.hid (HNO.out k hlt (fun h => hpt (HFU.out.1 h)))
        have hs := HS.out.lift HB2.out
        have hsc := hs.cell
        have hsl := hs.lt
        clear hpt hs
        go_wp2
        go_region
        all_goals
          go_wp2
          go_ret2
          exact ⟨by rw [HE.out]; rfl, HB2.out.drew⟩
    · have hkn : k = partsN n := by omega
      subst hkn
      have hge : ¬ ((partsN n : Nat) : Int) < ((partsN n : Nat) : Int) := by omega
      have HE := Lib.hid (HY.out HF.out)
      clear hlt hk
      obtain ⟨t, ht⟩ : ∃ x, x = gotB d f n (partsN n) := ⟨_, rfl⟩
      rw [← ht] at HBL HE
      clear ht
      have hpp : IntKind.i64.wrap ((partsN n : Nat) : Int) = ((partsN n : Nat) : Int) := IntWalk.i64_in _ (by omega)
      go_wp2_with fail
      refine (bld_string w.heap.size w.heap.size t.data.toList _ HBL.out HB.out.size).mono ?_
      rintro e w3 ⟨rfl, hb⟩
      rw [show (⟨t.data.toList.toArray⟩ : ByteArray) = t from bytes_ext rfl]
      go_wp2
      go_ret2
      exact ⟨by rw [HE.out]; rfl, HB.out.trans hb⟩

end Go.Proofs.YthchlfllcnlmjaaGreatDoor
