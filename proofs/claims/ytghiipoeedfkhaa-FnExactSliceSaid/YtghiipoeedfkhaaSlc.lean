/-
  A part of a doc's text: contracts of the model and of the program.
-/
import Derived.Test.YtghiipoeedfkhaaText
namespace Go.Proofs.Ytghiipoeedfkhaa
set_option linter.unusedSimpArgs false
set_option linter.unusedVariables false
open Go.ChangeShapes Go.WideShapes Go.ChangeAt Go.RowKit

/-- The text from a on, below b. -/
noncomputable def sliceD (d : Dc) (a b : Int) : ByteArray := if 0 ≤ a ∧ a ≤ b ∧ b ≤ ((textD d).size : Int) then (textD d).extract a.toNat b.toNat else ⟨#[]⟩
theorem sliceD_yes {d : Dc} {a b : Nat} (h : a ≤ b) (h2 : b ≤ (textD d).size) : sliceD d a b = (textD d).extract a b := by
  unfold sliceD
  rw [if_pos ⟨by omega, by omega, by omega⟩, Int.toNat_natCast, Int.toNat_natCast]
theorem sliceD_no {d : Dc} {a b : Int} (h : a < 0 ∨ b < a ∨ ((textD d).size : Int) < b) : sliceD d a b = ⟨#[]⟩ := if_neg (fun hh => by omega)
theorem sliceD_ill {d : Dc} {a b : Int} (h : docB d = false) : sliceD d a b = ⟨#[]⟩ := by
  unfold sliceD
  rw [textD_no h]
  split
  · apply ByteArray.ext; simp
  · rfl

set_option maxRecDepth 100000 in
set_option maxHeartbeats 4000000 in
theorem impl_slice (v : Value) (d : Dc) (a b : Int) (w : World) (hv : DcAt w w.heap.size v d) (hf : Fit d) (hs : (textD d).size ≤ 1048576) :
    Calls Try.prog 40 #[v, .int .i64 a, .int .i64 b] w (Back (.string (sliceD d a b)) w) := by
  have HT := Lib.hid (fun W (hb : Below w.heap.size w W) => impl_textOf v d W ((hv.below hb).more hb.size) hf)
  obtain ⟨vx, vp, vh, rfl, hx, hp, hh⟩ := hv
  clear hx hp hh hf
  have HL := Lib.hid ((Lg.start w).alloc (.cells #[vx, vp, vh] 29))
  have HY := Lib.hid (fun (a b : Nat) h h2 => sliceD_yes (d := d) (a := a) (b := b) h h2)
  have HN := Lib.hid (fun (a b : Int) h => sliceD_no (d := d) (a := a) (b := b) h)
  obtain ⟨t, ht⟩ : ∃ t, t = textD d := ⟨_, rfl⟩
  rw [← ht] at HT hs HY HN
  clear ht
  go_enter Try.func40, Try.ntmps40
  go_wp2_with fail
  refine (HT.out _ HL.out.bel).mono ?_
  rintro e w1 ⟨rfl, hb1⟩
  replace HL := Lib.hid (HL.out.lift hb1); clear hb1
  by_cases h1 : a < 0
  · go_wp2
    go_ret
    exact ⟨ret_str (HN.out _ _ (.inl h1)).symm, HL.out.bel⟩
  by_cases h2 : b < a
  · go_wp2
    go_ret
    exact ⟨ret_str (HN.out _ _ (.inr (.inl h2))).symm, HL.out.bel⟩
  by_cases h3 : (t.size : Int) < b
  · go_wp2
    go_ret
    exact ⟨ret_str (HN.out _ _ (.inr (.inr h3))).symm, HL.out.bel⟩
  obtain ⟨p, rfl⟩ : ∃ p : Nat, a = (p : Int) := ⟨a.toNat, by omega⟩
  obtain ⟨q, rfl⟩ : ∃ q : Nat, b = (q : Int) := ⟨b.toNat, by omega⟩
  have hpq : p ≤ q := by omega
  have hq : q ≤ t.size := by omega
  go_wp2
  go_ret
  exact ⟨ret_str (HY.out _ _ hpq hq).symm, HL.out.bel⟩

set_option maxRecDepth 100000 in
set_option maxHeartbeats 4000000 in
theorem spec_slice (v : Value) (d : Dc) (a b : Int) (w : World) (hv : DcAt w w.heap.size v d) (hf : Fit d) :
    Calls Try.prog 39 #[v, .int .i64 a, .int .i64 b] w (Back (.string (sliceD d a b)) w) := by
  have HD := Lib.hid (fun W (hb : Below w.heap.size w W) => spec_docF v d W ((hv.below hb).more hb.size) hf)
  have HT := Lib.hid (fun (h : DocP d) W (hb : Below w.heap.size w W) => spec_ltext v d W ((hv.below hb).more hb.size) (items_ones h.1) (by have := h.1.1; omega))
  obtain ⟨vx, vp, vh, rfl, hx, hp, hh⟩ := hv
  clear hx hp hh hf
  have HL := Lib.hid ((Lg.start w).alloc (.cells #[vx, vp, vh] 29))
  cases hd : docB d with
  | false =>
    replace HD := Lib.hid (fun W hb => (HD.out W hb).mono fun _ _ h => Tell.to h hd)
    have HE := Lib.hid (sliceD_ill (a := a) (b := b) hd); clear hd
    go_enter Try.func39, Try.ntmps39
    go_wp2_with fail
    refine (HD.out _ HL.out.bel).mono ?_
    rintro e w1 ⟨rfl, hb1⟩
    replace HL := Lib.hid (HL.out.lift hb1); clear hb1
    go_wp2
    go_ret
    exact ⟨ret_str HE.out.symm, HL.out.bel⟩
  | true =>
    replace HD := Lib.hid (fun W hb => (HD.out W hb).mono fun _ _ h => Tell.to h hd)
    have HY := Lib.hid (fun (a b : Nat) h h2 => sliceD_yes (d := d) (a := a) (b := b) h h2)
    have HN := Lib.hid (fun (a b : Int) h => sliceD_no (d := d) (a := a) (b := b) h)
    replace HT := Lib.hid (HT.out ((docB_iff d).1 hd))
    have hE := textD_yes hd
    have hlen : (textB d.X).size ≤ 60 := by
      have h1 := textL_len (items_ones ((docB_iff d).1 hd).1)
      have h2 := ((docB_iff d).1 hd).1.1
      have h3 : (textB d.X).size = (textL d.X).length := by unfold textB; exact List.size_toArray
      omega
    rw [hE] at HY HN
    obtain ⟨t, ht⟩ : ∃ t, t = textB d.X := ⟨_, rfl⟩
    rw [← ht] at HT HY HN hlen
    clear ht hE hd
    go_enter Try.func39, Try.ntmps39
    go_wp2_with fail
    refine (HD.out _ HL.out.bel).mono ?_
    rintro e w1 ⟨rfl, hb1⟩
    replace HL := Lib.hid (HL.out.lift hb1); clear hb1
    obtain ⟨x0, x1, x2⟩ := box3 (HL.out.blk _ List.mem_cons_self)
    go_wp2_with fail
    refine (HT.out _ HL.out.bel).mono ?_
    rintro e w2 ⟨rfl, hb2⟩
    replace HL := Lib.hid (HL.out.lift hb2); clear hb2 x0 x1 x2
    by_cases h1 : a < 0
    · go_wp2
      go_ret
      exact ⟨ret_str (HN.out _ _ (.inl h1)).symm, HL.out.bel⟩
    by_cases h2 : b < a
    · go_wp2
      go_ret
      exact ⟨ret_str (HN.out _ _ (.inr (.inl h2))).symm, HL.out.bel⟩
    by_cases h3 : (t.size : Int) < b
    · go_wp2
      go_ret
      exact ⟨ret_str (HN.out _ _ (.inr (.inr h3))).symm, HL.out.bel⟩
    obtain ⟨p, rfl⟩ : ∃ p : Nat, a = (p : Int) := ⟨a.toNat, by omega⟩
    obtain ⟨q, rfl⟩ : ∃ q : Nat, b = (q : Int) := ⟨b.toNat, by omega⟩
    have hpq : p ≤ q := by omega
    have hq : q ≤ t.size := by omega
    go_wp2
    go_ret
    exact ⟨ret_str (HY.out _ _ hpq hq).symm, HL.out.bel⟩

/-- A doc's text is short. -/
theorem textD_len (d : Dc) : (textD d).size ≤ 60 := by
  cases hd : docB d with
  | false => rw [textD_no hd]; exact Nat.zero_le _
  | true =>
    rw [textD_yes hd]
    have h1 := textL_len (items_ones ((docB_iff d).1 hd).1)
    have h2 := ((docB_iff d).1 hd).1.1
    have h3 : (textB d.X).size = (textL d.X).length := by unfold textB; exact List.size_toArray
    omega

end Go.Proofs.Ytghiipoeedfkhaa
