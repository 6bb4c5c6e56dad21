/-
  Contract of the program's nextHead.
-/
import Derived.Test.YthchlfllcnlmjaaGreatDoorAreaOn
import Derived.Test.YthchlfllcnlmjaaGreatDoorPutM
namespace Go.Proofs.YthchlfllcnlmjaaGreatDoor
open Go.ChangeShapes Go.WideShapes Go.ChangeAt Go.RowKit

/-- What nextHead hands back: the head of the text to come, or an error, of which areaFault tells AreaPut's code. -/
def NextRet (a0 a1 a2 a3 : Addr) (w : World) (d : Dk) (t : ByteArray) (e : Ending) (w' : World) : Prop := Below w.heap.size w w' ∧
  ((∃ (g n : Int) (s : Nat) (x : ByteArray), e = .returned (.tuple #[.agg #[.int .i64 (g + 1), .int .i64 ((1 - s : Nat) : Int), .int .i64 (t.size : Int)], .nilIface]) ∧ Right d ∧ s ≤ 1 ∧ seenH (readT d 0) (64 * halfN d) = (g, (s : Int), n, 0) ∧ readAo d = ⟨d, x, g, 0⟩ ∧ 0 ≤ g ∧ ¬ (64 * halfN d < t.size ∨ 1000000 ≤ g)) ∨
   (∃ (x : TypeId) (y : Value) (c : Int), e = .returned (.tuple #[.agg #[.int .i64 0, .int .i64 0, .int .i64 0], .iface x y]) ∧ (∀ steps, ¬ 8000 < t.size → putAo d t steps = illAo c) ∧ ∀ W, Sents W a0 a1 a2 a3 → ErrVar W → Calls Tryz.prog 36 #[.iface x y] W (OwnsAo W (illAo c))))

theorem readAo_right {d : Dk} (h : ¬ Right d) (t : ByteArray) (steps : Int) (h8 : ¬ 8000 < t.size) {c : Int} (hr : readAo d = illAo c) : putAo d t steps = illAo c := by
  rw [readAo_form h] at hr
  have : c = 1 := by
    have := congrArg Ao.code hr
    exact this.symm
  rw [putAo_form h8 h, this]

set_option maxRecDepth 100000 in
set_option maxHeartbeats 4000000 in
theorem impl_nexthead {a0 a1 a2 a3 : Addr} (v : Value) (d : Dk) (t : ByteArray) (w : World) (hv : DkAt w w.heap.size v d) (hd : Small d) (hs : Sents w a0 a1 a2 a3) (he : ErrVar w) :
    Calls Tryz.prog 38 #[v, .string t] w (NextRet a0 a1 a2 a3 w d t) := by
  obtain ⟨vs, vp, rfl, hs', hp⟩ := hv
  obtain ⟨A1, c1, rfl⟩ := hs'.form
  obtain ⟨A2, c2, rfl⟩ := hp.form
  have HL := Lib.hid (led_two w (.cells #[.slice A1 d.S.length c1, .slice A2 d.P.length c2] 26) (.cells #[.int .i64 0, .int .i64 0, .int .i64 0] 58) (d := d) ⟨_, _, rfl, hs', hp⟩)
  have HSM := Lib.hid hd; have HS := Lib.hid hs; have HV := Lib.hid he
  have hd1 := hd.1; have hd2 := hd.2.2.1
  clear hs' hp hd hs he
  go_enter Tryz.func38, Tryz.ntmps38
  go_wp2_with fail
  refine (impl_areaon _ d _ (HL.out.at_ List.mem_cons_self) HSM.out (HS.out.lift HL.out.bel) (HV.out.lift HL.out.bel)).mono ?_
  rintro e w1 ⟨hb, hr⟩
  replace HL := Lib.hid (HL.out.lift hb)
  clear hb
  have HZ := Lib.hid (HL.out.blk _ List.mem_cons_self)
  obtain ⟨z0, z1, z2⟩ := box3 HZ.out
  obtain ⟨k0, k1, k2, _⟩ := box_frozen HZ.out
  have hz := block_lt HZ.out
  have HBF := Lib.hid HL.out.bel
  rcases hr with ⟨g, s, n, x, rfl, hR, hse, hE⟩ | ⟨x, y, c, hc, rfl, hE, hF⟩
  · have HE := Lib.hid hE
    have hsp := seen_parts hse
    have HSE := Lib.hid hse
    have HRR := Lib.hid hR
    obtain ⟨hg0, hgi, hs0, hs1⟩ : 0 ≤ g ∧ I64 g ∧ 0 ≤ s ∧ s ≤ 1 := by
      rcases hsp with ⟨_, a, b, c, d, _⟩ | ⟨_, _, _, h⟩
      · exact ⟨a, b, c, d⟩
      · omega
    obtain ⟨s, rfl⟩ := Int.eq_ofNat_of_zero_le hs0
    obtain ⟨s2, hs2⟩ : ∃ x : Nat, x = 1 - s := ⟨_, rfl⟩
    have hsb : (1 : Int) - (s : Int) = (s2 : Int) := by omega
    have hw1 : IntKind.i64.wrap (s2 : Int) = (s2 : Int) := IntWalk.i64_in _ (by omega)
    obtain ⟨rm, hrm⟩ : ∃ x : Int, x = (roomN d : Int) := ⟨_, rfl⟩
    have HROOM := Lib.hid (fun W (h : DkAt W W.heap.size (.agg #[.slice A1 d.S.length c1, .slice A2 d.P.length c2]) d) => impl_room _ d W h (by omega) (by omega))
    rw [← hrm] at HROOM
    have HRM := Lib.hid (show rm = ((64 * halfN d : Nat) : Int) by rw [hrm, roomN_yes hR])
    have HS2 := Lib.hid hs2
    clear hE hse hR hsp hrm hs2
    replace HL := Lib.hid (HL.out.alloc (.cells #[.int .i64 g, .int .i64 (s : Int), .int .i64 n] 58))
    obtain ⟨y0, y1, yl⟩ := HL.out.b2 (List.mem_cons_of_mem _ (List.mem_cons_of_mem _ List.mem_cons_self))
    go_wp2_with fail
    refine (HROOM.out _ (HL.out.at_ List.mem_cons_self)).mono ?_
    rintro e w2 ⟨rfl, hb⟩
    replace HL := Lib.hid (HL.out.lift hb)
    clear hb y0 y1 yl z0 z1 z2 k0 k1 k2 hz HZ HBF
    have HZ := Lib.hid (HL.out.blk _ (List.mem_cons_of_mem _ List.mem_cons_self))
    obtain ⟨z0, z1, z2⟩ := box3 HZ.out
    obtain ⟨k0, k1, k2, _⟩ := box_frozen HZ.out
    have hz := block_lt HZ.out
    have HBF := Lib.hid HL.out.bel
    obtain ⟨q0, q1, q2, ql⟩ := HL.out.b3 List.mem_cons_self
    have hrc := (HS.out.s3.lift HBF.out).cell
    have hrl := (HS.out.s3.lift HBF.out).lt
    have hrl0 := HS.out.s3.lt
    have hne0 : ¬ w.heap.size + 1 = 1 := by omega
    have hne0' : ¬ 1 = w.heap.size + 1 := by omega
    by_cases hbig : rm < (t.size : Int)
    · have HF := Lib.hid (fun steps h8 => putAo_full (steps := steps) (t := t) h8 HRR.out HE.out (.inl (by have := HRM.out; omega)))
      go_wp2
      go_region
      all_goals
        go_wp2
        refine bodyPost_ret (v := .tuple #[.agg #[.int .i64 0, .int .i64 0, .int .i64 0], .iface 179 (.pointer (some a3))]) (by simp [results, Tryz.results38, go_sem, z0, z1, z2]) rfl ⟨?_, .inr ⟨_, _, 9, rfl, HF.out, fun W hS _ => fault_noroom W hS⟩⟩
        repeat (first | refine Below.setCell ?_ (by simp only; omega) _ | refine Below.drew ?_)
        exact HBF.out
    · by_cases hgen : 1000000 ≤ g
      · have hgen' : ¬ g < 1000000 := by omega
        have HF := Lib.hid (fun steps h8 => putAo_full (steps := steps) (t := t) h8 HRR.out HE.out (.inr hgen))
        go_wp2
        go_region
        all_goals
          go_wp2
          refine bodyPost_ret (v := .tuple #[.agg #[.int .i64 0, .int .i64 0, .int .i64 0], .iface 179 (.pointer (some a3))]) (by simp [results, Tryz.results38, go_sem, z0, z1, z2]) rfl ⟨?_, .inr ⟨_, _, 9, rfl, HF.out, fun W hS _ => fault_noroom W hS⟩⟩
          repeat (first | refine Below.setCell ?_ (by simp only; omega) _ | refine Below.drew ?_)
          exact HBF.out
      · have hgen' : g < 1000000 := by omega
        have hw2 : IntKind.i64.wrap (g + 1) = g + 1 := IntWalk.i64_in _ (by omega)
        go_wp2
        refine bodyPost_ret (v := .tuple #[.agg #[.int .i64 (g + 1), .int .i64 (s2 : Int), .int .i64 (t.size : Int)], .nilIface]) (by simp [results, Tryz.results38, go_sem, z0, z1, z2]) rfl ⟨?_, .inl ⟨g, n, s, x, by rw [HS2.out], HRR.out, by omega, HSE.out, HE.out, hg0, by have := HRM.out; omega⟩⟩
        repeat (first | refine Below.setCell ?_ (by simp only; omega) _ | refine Below.drew ?_)
        exact HBF.out
  · have HF := Lib.hid hF
    have HE := Lib.hid (show ∀ steps, ¬ 8000 < t.size → putAo d t steps = illAo c from fun steps h8 => by
      by_cases hR : Right d
      · exact putAo_read h8 hR hE hc
      · exact readAo_right hR t steps h8 hE)
    clear hE hF hc
    go_wp2
    refine bodyPost_ret (v := .tuple #[.agg #[.int .i64 0, .int .i64 0, .int .i64 0], .iface x y]) (by simp [results, Tryz.results38, go_sem, z0, z1, z2, hz]) rfl ⟨?_, .inr ⟨_, _, c, rfl, HE.out, HF.out⟩⟩
    repeat (first | refine Below.setCell ?_ (by simp only; omega) _ | refine Below.drew ?_ | refine Below.alloc ?_ (by first | exact Nat.le_refl _ | (simp only [World.size_alloc]; omega) | (simp; omega)) _)
    exact HBF.out

end Go.Proofs.YthchlfllcnlmjaaGreatDoor
