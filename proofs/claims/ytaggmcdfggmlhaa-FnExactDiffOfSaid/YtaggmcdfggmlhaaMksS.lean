/-
  The marks of a doc: contracts of the model.
-/
import Derived.Test.YtaggmcdfggmlhaaIns
namespace Go.Proofs.Ytaggmcdfggmlhaa
set_option linter.unusedSimpArgs false
set_option linter.unusedVariables false
open Go.ChangeShapes Go.WideShapes Go.ChangeAt Go.RowKit

/-- The marks of the first k items. -/
noncomputable def marksTo (X : List Im) (k : Nat) : List Nm := (X.take k).foldl (fun acc x => withR nmK acc ⟨x.i.c, nextOf X x.i.c⟩) []
theorem marksTo_zero (X : List Im) : marksTo X 0 = [] := rfl
theorem marksTo_succ {X : List Im} {k : Nat} (hk : k < X.length) : marksTo X (k + 1) = withR nmK (marksTo X k) ⟨X[k].i.c, nextOf X X[k].i.c⟩ := by
  unfold marksTo
  rw [List.take_succ_eq_append_getElem hk, List.foldl_append]
  rfl
theorem marksTo_rise (X : List Im) (k : Nat) (hk : k ≤ X.length) : Rise nmK (marksTo X k) := by
  induction k with
  | zero => exact rise_nil _
  | succ k ih => rw [marksTo_succ (by omega)]; exact with_rise (ih (by omega)) _
theorem marksTo_len (X : List Im) (k : Nat) (hk : k ≤ X.length) : (marksTo X k).length ≤ k := by
  induction k with
  | zero => simp [marksTo_zero]
  | succ k ih => rw [marksTo_succ (by omega)]; have := (with_len nmK (marksTo X k) ⟨X[k].i.c, nextOf X X[k].i.c⟩).2; have := ih (by omega); omega
noncomputable def marksD (d : Dc) : List Nm := if docB d = true then marksTo d.X d.X.length else []
theorem marksD_yes {d : Dc} (h : docB d = true) : marksD d = marksTo d.X d.X.length := if_pos h
theorem marksD_no {d : Dc} (h : docB d = false) : marksD d = [] := if_neg (by rw [h]; exact Bool.false_ne_true)
theorem own_two {w : World} {base g c : Nat} {E : TypeId} {l : List Nm} (h : Ow w base E 2 encN (.slice (some ⟨g, 0, none⟩) l.length c) l) (k : Nat) (hk : k < l.length) : w.cell? ⟨g, k * 2, none⟩ = some (.int .i64 l[k].c) ∧ w.cell? ⟨g, k * 2 + 1, none⟩ = some (.int .i64 l[k].k) := by
  have h2 : w.ownsRow base E 2 (.slice (some ⟨g, 0, none⟩) l.length c) l.length (l.flatMap encN) := h
  have hx : l[k]? = some l[k] := List.getElem?_eq_getElem hk
  have f0 := flat_at 2 encN encN_len l k l[k] 0 (.int .i64 l[k].c) hx rfl
  have f1 := flat_at 2 encN encN_len l k l[k] 1 (.int .i64 l[k].k) hx rfl
  exact ⟨by rw [h2.cellAt (k * 2) (by omega)]; exact f0, by rw [h2.cellAt (k * 2 + 1) (by omega)]; exact f1⟩

set_option maxRecDepth 100000 in
set_option maxHeartbeats 16000000 in
theorem spec_marks (v : Value) (X : List Im) (w : World) (hv : Sl w w.heap.size 8 encM v X) (hl : X.length ≤ 1048576) :
    Calls Try.prog 86 #[v] w (Owns w 113 2 encN (marksTo X X.length)) := by
  have HNE := Lib.hid (fun n W (hb : Below w.heap.size w W) => spec_next v X n W ((hv.below hb).more hb.size) (by omega))
  obtain ⟨A0, c0', rfl⟩ := hv.form
  have HV := Lib.hid hv; clear hv
  go_enter Try.func86, Try.ntmps86
  go_wp2
  go_loopw [3, 4] (fun o i wr => ∃ (k : Nat) (A : Option Addr) (c : Nat), k ≤ X.length ∧ i = .int .i64 k ∧ o = .slice A (marksTo X k).length c ∧ Ow wr w.heap.size 113 2 encN (.slice A (marksTo X k).length c) (marksTo X k) ∧ Below w.heap.size w wr) (fun _ i _ => X.length - (intOf i).toNat)
  case atStart => exact ⟨0, _, _, Nat.zero_le _, rfl, rfl, own_empty (heap_alloc_new w (.cells #[] 113)) w.heap.size 2 (Nat.le_refl _), by (repeat (first | with_reducible refine bset ?_ _ (by omega) | with_reducible refine ball ?_ _ (by first | exact Nat.le_refl _ | (simp only [World.size_alloc, World.size_setCell]; omega)) | with_reducible exact Below.refl _ _ | with_reducible refine Below.drew ?_))⟩
  case round =>
    obtain ⟨k, A, c, hk, rfl, rfl, ho, hb⟩ := hrel
    have hlen := marksTo_len X k hk
    have HBW := Lib.hid hb; clear hb
    by_cases hlt : k < X.length
    case neg =>
      obtain rfl : k = X.length := by omega
      have HO := Lib.hid ho; clear ho
      go_wp2
      go_ret
      exact ⟨_, rfl, HO.out, HBW.out⟩
    have HST := Lib.hid (marksTo_succ hlt)
    obtain ⟨ad, c', e', _, c0, c1, -, -, -, -, -, -⟩ := (HV.out.below HBW.out).item k hlt
    simp only [Value.slice.injEq, true_and] at e'
    obtain ⟨rfl, rfl⟩ := e'
    obtain ⟨cl, hcl⟩ : ∃ cl, cl = X[k].i.c := ⟨_, rfl⟩
    obtain ⟨q, hq⟩ : ∃ q : Int, q = nextOf X X[k].i.c := ⟨_, rfl⟩
    rw [← hq] at HST
    have HNX := Lib.hid (HNE.out X[k].i.c)
    rw [← hq] at HNX
    rw [← hcl] at c0 HNX HST
    clear hq hcl
    obtain ⟨L, hL⟩ : ∃ L, L = marksTo X k := ⟨_, rfl⟩
    rw [← hL] at HST ho hlen ⊢
    clear hL
    have HO := Lib.hid ho
    rcases ho.2 with ⟨hA, h0⟩ | ⟨gg, cap, cur, hA, -, -, hc1, hc2, -⟩
    case inl =>
      simp only [Value.slice.injEq] at hA
      obtain ⟨rfl, _, rfl⟩ := hA
      obtain rfl : L = [] := List.length_eq_zero_iff.1 h0
      have HS := Lib.hid (show spot nmK ([] : List Nm) (nmK ⟨cl, q⟩) = 0 from rfl)
      have HE := Lib.hid (show ¬ ThereP nmK ([] : List Nm) (nmK ⟨cl, q⟩) from fun ⟨h1, _⟩ => absurd h1 (Nat.not_lt_zero _))
      clear ho h0 hlen
      go_wp2
      go_loop [6] (fun j => j = .int .i64 0) (fun _ => 0)
      case atStart => rfl
      case round =>
        obtain rfl := hrel
        have HOE := Lib.hid (own_empty (heap_alloc_new wr (.cells #[] 113)) wr.heap.size 2 (Nat.le_refl _))
        go_wp2_with (at_builtin; refine list_append_sl markType _ rfl _ _ rfl wr.heap.size (.slice (some ⟨wr.heap.size, 0, none⟩) 0 0) 0 [] rfl HOE.out wr.heap.size encN _ ([] : List Nm) rfl (Sl.nil_ _ wr.heap.size 2 encN 0 none) encN_len encN_one (by first | (unfold maxLen; omega) | (simp; unfold maxLen; omega)) (by first | omega | (simp; done) | (simp; omega)) (by first | omega | (simp; done) | (simp; omega)) ?_)
        intro v3 w3 g3
        obtain ⟨A3, c3, rfl⟩ := g3.form
        have HG3 := Lib.hid g3.1
        have HB3 := Lib.hid (show Below wr.heap.size wr w3 from Below.trans ((Below.refl wr.heap.size wr).alloc (Nat.le_refl _) _) (g3.below (fun g hgg => by simp only [Value.ownBlock, Option.some.injEq] at hgg; omega) (by simp)))
        clear g3 HOE
        go_wp2_with fail
        refine (HNX.out _ (HBW.out.trans (HB3.out.mono HBW.out.size))).mono ?_
        rintro e w3b ⟨rfl, hbn⟩
        replace HG3 := Lib.hid (own_lift HG3.out hbn)
        replace HB3 := Lib.hid (show Below wr.heap.size wr w3b from HB3.out.trans (hbn.mono HB3.out.size))
        clear hbn
        go_wp2_with (at_builtin; refine list_append_sl markType _ rfl _ _ rfl wr.heap.size (.slice A3 0 c3) 0 _ rfl (World.ownsRow.alloc HG3.out _) _ encN _ [⟨cl, q⟩] rfl (sl_single (heap_at (by simp)) 2 encN ⟨cl, q⟩ rfl) encN_len encN_one (by first | (unfold maxLen; omega) | (simp; unfold maxLen; omega)) (by first | omega | (simp; done) | (simp; omega)) (by have := HB3.out.size; first | omega | (simp; done) | (simp; omega)) ?_)
        intro v4 w4 g4
        obtain ⟨A4, c4, rfl⟩ := g4.form
        have HG4 := Lib.hid g4.1
        have HB4 := Lib.hid (show Below wr.heap.size wr w4 from Below.trans HB3.out (Below.trans ((Below.refl wr.heap.size w3b).alloc HB3.out.size _) (g4.below (fun g hgg => (World.ownsRow.lt HG3.out g hgg).1) (by have := HB3.out.size; simp; omega))))
        clear g4
        skip
        go_wp2_with (at_builtin; refine list_append_sl markType _ rfl _ _ rfl wr.heap.size (.slice A4 1 c4) 1 _ rfl HG4.out wr.heap.size encN _ ([] : List Nm) rfl (Sl.nil_ _ wr.heap.size 2 encN _ _) encN_len encN_one (by first | (unfold maxLen; omega) | (simp; unfold maxLen; omega)) (by first | omega | (simp; done) | (simp; omega)) (by have := HB4.out.size; first | omega | (simp; done) | (simp; omega)) ?_)
        intro v5 w5 g5
        obtain ⟨A5, c5, rfl⟩ := g5.form
        have HG5 := Lib.hid g5.1
        have HB5 := Lib.hid (show Below wr.heap.size wr w5 from Below.trans HB4.out (g5.below (fun g hgg => (World.ownsRow.lt HG4.out g hgg).1) HB4.out.size))
        clear g5
        have e : withR nmK ([] : List Nm) ⟨cl, q⟩ = (([] : List Nm) ++ [⟨cl, q⟩]) ++ ([] : List Nm) := by
          rw [with_new HE.out, HS.out]
          simp
        have el : 1 = (withR nmK ([] : List Nm) ⟨cl, q⟩).length := by rw [e]; simp; try omega
        have HOW := Lib.hid (show Ow w5 w.heap.size 113 2 encN (.slice A5 1 c5) (withR nmK ([] : List Nm) ⟨cl, q⟩) from by
          refine Ow.base (base := wr.heap.size) ?_ HBW.out.size
          unfold Ow
          rw [← el, e]
          have h := HG5.out
          simpa using h)
        rw [el] at HOW ⊢
        clear e el HG5 HG4 HG3
        go_wp2
        go_roundw
        case rel => exact ⟨k + 1, _, _, by omega, by go_num, by rw [HST.out], by rw [HST.out]; exact HOW.out, HBW.out.trans (HB5.out.mono HBW.out.size)⟩
        case measure => simp [intOf]; omega
    case inr =>
      simp only [Value.slice.injEq, true_and] at hA
      obtain ⟨rfl, rfl⟩ := hA
      have hlc : L.length ≤ c := hc1
      have HSL := Lib.hid (fun (W : World) (hb : Below wr.heap.size wr W) => (show Sl W wr.heap.size 2 encN (.slice (some ⟨gg, 0, none⟩) L.length c) L from (HO.out.sl encN_len).below hb))
      clear ho
      go_wp2
      go_loop [6] (fun j => ∃ b : Nat, b ≤ L.length ∧ j = .int .i64 b ∧ LowTo nmK L ⟨cl, 0⟩ b) (fun j => L.length - (intOf j).toNat)
      case atStart => exact ⟨0, Nat.zero_le _, rfl, lowTo_zero _ _ _⟩
      case round =>
        obtain ⟨b, hb, rfl, hlo⟩ := hrel
        have HLO := Lib.hid hlo; clear hlo
        by_cases hbl : b < L.length
        case neg =>
          have HS := Lib.hid (show spot nmK L (nmK ⟨cl, q⟩) = b from spot_is hb HLO.out (fun hk => absurd hk (by omega)))
          have HE := Lib.hid (show ¬ ThereP nmK L (nmK ⟨cl, q⟩) from fun ⟨h1, h2⟩ => by rw [HS.out] at h1; omega)
          have hlb : L.length ≤ b := by omega
          by_cases hca : c = b
          · subst hca
            have HOE := Lib.hid (own_empty (heap_alloc_new wr (.cells #[] 113)) wr.heap.size 2 (Nat.le_refl _))
            go_wp2_with (at_builtin; refine list_append_sl markType _ rfl _ _ rfl wr.heap.size (.slice (some ⟨wr.heap.size, 0, none⟩) 0 0) 0 [] rfl HOE.out wr.heap.size encN _ (L.take c) rfl (sl_take (HSL.out _ (ball (Below.refl _ _) _ (Nat.le_refl _))) c c hb) encN_len encN_one (by first | (unfold maxLen; omega) | (simp; unfold maxLen; omega)) (by first | omega | (simp; done) | (simp; omega)) (by first | omega | (simp; done) | (simp; omega)) ?_)
            intro v3 w3 g3
            obtain ⟨A3, c3, rfl⟩ := g3.form
            have HG3 := Lib.hid g3.1
            have HB3 := Lib.hid (show Below wr.heap.size wr w3 from Below.trans ((Below.refl wr.heap.size wr).alloc (Nat.le_refl _) _) (g3.below (fun g hgg => by simp only [Value.ownBlock, Option.some.injEq] at hgg; omega) (by simp)))
            clear g3 HOE
            go_wp2_with fail
            refine (HNX.out _ (HBW.out.trans (HB3.out.mono HBW.out.size))).mono ?_
            rintro e w3b ⟨rfl, hbn⟩
            replace HG3 := Lib.hid (own_lift HG3.out hbn)
            replace HB3 := Lib.hid (show Below wr.heap.size wr w3b from HB3.out.trans (hbn.mono HB3.out.size))
            clear hbn
            go_wp2_with (at_builtin; refine list_append_sl markType _ rfl _ _ rfl wr.heap.size (.slice A3 c c3) c _ rfl (World.ownsRow.alloc HG3.out _) _ encN _ [⟨cl, q⟩] rfl (sl_single (heap_at (by simp)) 2 encN ⟨cl, q⟩ rfl) encN_len encN_one (by first | (unfold maxLen; omega) | (simp; unfold maxLen; omega)) (by first | omega | (simp; done) | (simp; omega)) (by have := HB3.out.size; first | omega | (simp; done) | (simp; omega)) ?_)
            intro v4 w4 g4
            obtain ⟨A4, c4, rfl⟩ := g4.form
            have HG4 := Lib.hid g4.1
            have HB4 := Lib.hid (show Below wr.heap.size wr w4 from Below.trans HB3.out (Below.trans ((Below.refl wr.heap.size w3b).alloc HB3.out.size _) (g4.below (fun g hgg => (World.ownsRow.lt HG3.out g hgg).1) (by have := HB3.out.size; simp; omega))))
            clear g4
            skip
            go_wp2_with (at_builtin; refine list_append_sl markType _ rfl _ _ rfl wr.heap.size (.slice A4 (c + 1) c4) (c + 1) _ rfl HG4.out wr.heap.size encN _ ([] : List Nm) rfl (Sl.nil_ _ wr.heap.size 2 encN _ _) encN_len encN_one (by first | (unfold maxLen; omega) | (simp; unfold maxLen; omega)) (by first | omega | (simp; done) | (simp; omega)) (by have := HB4.out.size; first | omega | (simp; done) | (simp; omega)) ?_)
            intro v5 w5 g5
            obtain ⟨A5, c5, rfl⟩ := g5.form
            have HG5 := Lib.hid g5.1
            have HB5 := Lib.hid (show Below wr.heap.size wr w5 from Below.trans HB4.out (g5.below (fun g hgg => (World.ownsRow.lt HG4.out g hgg).1) HB4.out.size))
            clear g5
            have e : withR nmK L ⟨cl, q⟩ = ((L.take c) ++ [⟨cl, q⟩]) ++ ([] : List Nm) := by
              rw [with_new HE.out, HS.out]
              rw [List.drop_eq_nil_of_le hlc]; simp
            have el : (c + 1) = (withR nmK L ⟨cl, q⟩).length := by rw [e]; simp; try omega
            have HOW := Lib.hid (show Ow w5 w.heap.size 113 2 encN (.slice A5 (c + 1) c5) (withR nmK L ⟨cl, q⟩) from by
              refine Ow.base (base := wr.heap.size) ?_ HBW.out.size
              unfold Ow
              rw [← el, e]
              have h := HG5.out
              simpa using h)
            rw [el] at HOW ⊢
            clear e el HG5 HG4 HG3
            go_wp2
            go_roundw
            case rel => exact ⟨k + 1, _, _, by omega, by go_num, by rw [HST.out], by rw [HST.out]; exact HOW.out, HBW.out.trans (HB5.out.mono HBW.out.size)⟩
            case measure => simp [intOf]; omega
          · skip
            have HOE := Lib.hid (own_empty (heap_alloc_new wr (.cells #[] 113)) wr.heap.size 2 (Nat.le_refl _))
            go_wp2_with (at_builtin; refine list_append_sl markType _ rfl _ _ rfl wr.heap.size (.slice (some ⟨wr.heap.size, 0, none⟩) 0 0) 0 [] rfl HOE.out wr.heap.size encN _ (L.take b) rfl (sl_take (HSL.out _ (ball (Below.refl _ _) _ (Nat.le_refl _))) b c hb) encN_len encN_one (by first | (unfold maxLen; omega) | (simp; unfold maxLen; omega)) (by first | omega | (simp; done) | (simp; omega)) (by first | omega | (simp; done) | (simp; omega)) ?_)
            intro v3 w3 g3
            obtain ⟨A3, c3, rfl⟩ := g3.form
            have HG3 := Lib.hid g3.1
            have HB3 := Lib.hid (show Below wr.heap.size wr w3 from Below.trans ((Below.refl wr.heap.size wr).alloc (Nat.le_refl _) _) (g3.below (fun g hgg => by simp only [Value.ownBlock, Option.some.injEq] at hgg; omega) (by simp)))
            clear g3 HOE
            go_wp2_with fail
            refine (HNX.out _ (HBW.out.trans (HB3.out.mono HBW.out.size))).mono ?_
            rintro e w3b ⟨rfl, hbn⟩
            replace HG3 := Lib.hid (own_lift HG3.out hbn)
            replace HB3 := Lib.hid (show Below wr.heap.size wr w3b from HB3.out.trans (hbn.mono HB3.out.size))
            clear hbn
            go_wp2_with (at_builtin; refine list_append_sl markType _ rfl _ _ rfl wr.heap.size (.slice A3 b c3) b _ rfl (World.ownsRow.alloc HG3.out _) _ encN _ [⟨cl, q⟩] rfl (sl_single (heap_at (by simp)) 2 encN ⟨cl, q⟩ rfl) encN_len encN_one (by first | (unfold maxLen; omega) | (simp; unfold maxLen; omega)) (by first | omega | (simp; done) | (simp; omega)) (by have := HB3.out.size; first | omega | (simp; done) | (simp; omega)) ?_)
            intro v4 w4 g4
            obtain ⟨A4, c4, rfl⟩ := g4.form
            have HG4 := Lib.hid g4.1
            have HB4 := Lib.hid (show Below wr.heap.size wr w4 from Below.trans HB3.out (Below.trans ((Below.refl wr.heap.size w3b).alloc HB3.out.size _) (g4.below (fun g hgg => (World.ownsRow.lt HG3.out g hgg).1) (by have := HB3.out.size; simp; omega))))
            clear g4
            skip
            go_wp2_with (at_builtin; refine list_append_sl markType _ rfl _ _ rfl wr.heap.size (.slice A4 (b + 1) c4) (b + 1) _ rfl HG4.out wr.heap.size encN _ ([] : List Nm) rfl (Sl.nil_ _ wr.heap.size 2 encN _ _) encN_len encN_one (by first | (unfold maxLen; omega) | (simp; unfold maxLen; omega)) (by first | omega | (simp; done) | (simp; omega)) (by have := HB4.out.size; first | omega | (simp; done) | (simp; omega)) ?_)
            intro v5 w5 g5
            obtain ⟨A5, c5, rfl⟩ := g5.form
            have HG5 := Lib.hid g5.1
            have HB5 := Lib.hid (show Below wr.heap.size wr w5 from Below.trans HB4.out (g5.below (fun g hgg => (World.ownsRow.lt HG4.out g hgg).1) HB4.out.size))
            clear g5
            have e : withR nmK L ⟨cl, q⟩ = ((L.take b) ++ [⟨cl, q⟩]) ++ ([] : List Nm) := by
              rw [with_new HE.out, HS.out]
              rw [List.drop_eq_nil_of_le hlb]; simp
            have el : (b + 1) = (withR nmK L ⟨cl, q⟩).length := by rw [e]; simp; try omega
            have HOW := Lib.hid (show Ow w5 w.heap.size 113 2 encN (.slice A5 (b + 1) c5) (withR nmK L ⟨cl, q⟩) from by
              refine Ow.base (base := wr.heap.size) ?_ HBW.out.size
              unfold Ow
              rw [← el, e]
              have h := HG5.out
              simpa using h)
            rw [el] at HOW ⊢
            clear e el HG5 HG4 HG3
            go_wp2
            go_roundw
            case rel => exact ⟨k + 1, _, _, by omega, by go_num, by rw [HST.out], by rw [HST.out]; exact HOW.out, HBW.out.trans (HB5.out.mono HBW.out.size)⟩
            case measure => simp [intOf]; omega
        obtain ⟨y, hy⟩ : ∃ y, y = L[b] := ⟨_, rfl⟩
        obtain ⟨y0, y1⟩ := own_two HO.out b hbl
        rw [← hy] at y0 y1
        have HYY := Lib.hid hy; clear hy
        by_cases h3 : y.c < cl
        · have HLT := Lib.hid (lowTo_step HLO.out hbl (by rw [← HYY.out]; exact .inl h3))
          go_wp2
          go_round
          case rel => exact ⟨b + 1, by omega, by go_num, HLT.out⟩
          case measure => simp [intOf]; omega
        · have HS := Lib.hid (show spot nmK L (nmK ⟨cl, q⟩) = b from spot_is hb HLO.out (fun hk => by rw [← HYY.out]; rintro (h | ⟨_, h⟩) <;> simp at h; exact h3 h))
          by_cases h4 : y.c = cl
          · have HE := Lib.hid (show ThereP nmK L (nmK ⟨cl, q⟩) from ⟨by rw [HS.out]; exact hbl, by simp only [HS.out]; rw [← HYY.out]; simp [nmK, h4]⟩)
            go_wp2
            go_roundw
            case rel => exact ⟨k + 1, _, _, by omega, by go_num, by rw [HST.out, with_there HE.out], by rw [HST.out, with_there HE.out]; exact HO.out, HBW.out⟩
            case measure => simp [intOf]; omega
          · have HE := Lib.hid (show ¬ ThereP nmK L (nmK ⟨cl, q⟩) from fun ⟨h1, h2⟩ => by
              simp only [HS.out] at h2; rw [← HYY.out] at h2; simp [nmK] at h2; exact h4 h2)
            have hca : ¬ c = b := by omega
            have HOE := Lib.hid (own_empty (heap_alloc_new wr (.cells #[] 113)) wr.heap.size 2 (Nat.le_refl _))
            go_wp2_with (at_builtin; refine list_append_sl markType _ rfl _ _ rfl wr.heap.size (.slice (some ⟨wr.heap.size, 0, none⟩) 0 0) 0 [] rfl HOE.out wr.heap.size encN _ (L.take b) rfl (sl_take (HSL.out _ (ball (Below.refl _ _) _ (Nat.le_refl _))) b c hb) encN_len encN_one (by first | (unfold maxLen; omega) | (simp; unfold maxLen; omega)) (by first | omega | (simp; done) | (simp; omega)) (by first | omega | (simp; done) | (simp; omega)) ?_)
            intro v3 w3 g3
            obtain ⟨A3, c3, rfl⟩ := g3.form
            have HG3 := Lib.hid g3.1
            have HB3 := Lib.hid (show Below wr.heap.size wr w3 from Below.trans ((Below.refl wr.heap.size wr).alloc (Nat.le_refl _) _) (g3.below (fun g hgg => by simp only [Value.ownBlock, Option.some.injEq] at hgg; omega) (by simp)))
            clear g3 HOE
            go_wp2_with fail
            refine (HNX.out _ (HBW.out.trans (HB3.out.mono HBW.out.size))).mono ?_
            rintro e w3b ⟨rfl, hbn⟩
            replace HG3 := Lib.hid (own_lift HG3.out hbn)
            replace HB3 := Lib.hid (show Below wr.heap.size wr w3b from HB3.out.trans (hbn.mono HB3.out.size))
            clear hbn
            go_wp2_with (at_builtin; refine list_append_sl markType _ rfl _ _ rfl wr.heap.size (.slice A3 b c3) b _ rfl (World.ownsRow.alloc HG3.out _) _ encN _ [⟨cl, q⟩] rfl (sl_single (heap_at (by simp)) 2 encN ⟨cl, q⟩ rfl) encN_len encN_one (by first | (unfold maxLen; omega) | (simp; unfold maxLen; omega)) (by first | omega | (simp; done) | (simp; omega)) (by have := HB3.out.size; first | omega | (simp; done) | (simp; omega)) ?_)
            intro v4 w4 g4
            obtain ⟨A4, c4, rfl⟩ := g4.form
            have HG4 := Lib.hid g4.1
            have HB4 := Lib.hid (show Below wr.heap.size wr w4 from Below.trans HB3.out (Below.trans ((Below.refl wr.heap.size w3b).alloc HB3.out.size _) (g4.below (fun g hgg => (World.ownsRow.lt HG3.out g hgg).1) (by have := HB3.out.size; simp; omega))))
            clear g4
            have HSD := Lib.hid (show Sl w4 wr.heap.size 2 encN (.slice (some ⟨gg, b * 2, none⟩) (L.length - b) (c - b)) (L.drop b) from by have h := sl_dropif (HSL.out _ HB4.out) b (c - b) hb hlc; rwa [if_neg hca] at h)
            go_wp2_with (at_builtin; refine list_append_sl markType _ rfl _ _ rfl wr.heap.size (.slice A4 (b + 1) c4) (b + 1) _ rfl HG4.out wr.heap.size encN _ (L.drop b) rfl HSD.out encN_len encN_one (by first | (unfold maxLen; omega) | (simp; unfold maxLen; omega)) (by first | omega | (simp; done) | (simp; omega)) (by have := HB4.out.size; first | omega | (simp; done) | (simp; omega)) ?_)
            intro v5 w5 g5
            obtain ⟨A5, c5, rfl⟩ := g5.form
            have HG5 := Lib.hid g5.1
            have HB5 := Lib.hid (show Below wr.heap.size wr w5 from Below.trans HB4.out (g5.below (fun g hgg => (World.ownsRow.lt HG4.out g hgg).1) HB4.out.size))
            clear g5
            have e : withR nmK L ⟨cl, q⟩ = ((L.take b) ++ [⟨cl, q⟩]) ++ (L.drop b) := by
              rw [with_new HE.out, HS.out]
              simp
            have el : (b + 1 + (L.length - b)) = (withR nmK L ⟨cl, q⟩).length := by rw [e]; simp; try omega
            have HOW := Lib.hid (show Ow w5 w.heap.size 113 2 encN (.slice A5 (b + 1 + (L.length - b)) c5) (withR nmK L ⟨cl, q⟩) from by
              refine Ow.base (base := wr.heap.size) ?_ HBW.out.size
              unfold Ow
              rw [← el, e]
              have h := HG5.out
              simpa using h)
            rw [el] at HOW ⊢
            clear e el HG5 HG4 HG3
            go_wp2
            go_roundw
            case rel => exact ⟨k + 1, _, _, by omega, by go_num, by rw [HST.out], by rw [HST.out]; exact HOW.out, HBW.out.trans (HB5.out.mono HBW.out.size)⟩
            case measure => simp [intOf]; omega

set_option maxRecDepth 100000 in
theorem spec_marksOf (v : Value) (d : Dc) (w : World) (hv : DcAt w w.heap.size v d) (hf : Fit d) :
    Calls Try.prog 28 #[v] w (Owns w 113 2 encN (marksD d)) := by
  have HD := Lib.hid (fun W (hb : Below w.heap.size w W) => spec_docF v d W ((hv.below hb).more hb.size) hf)
  obtain ⟨vx, vp, vh, rfl, hx, hp, hh⟩ := hv
  have HM := Lib.hid (fun (h : d.X.length ≤ 1048576) W (hb : Below w.heap.size w W) => spec_marks vx d.X W ((hx.below hb).more hb.size) h)
  obtain ⟨A1, k1, rfl⟩ := hx.form; obtain ⟨A2, k2, rfl⟩ := hp.form; obtain ⟨A3, k3, rfl⟩ := hh.form
  clear hx hp hh hf
  have HL := Lib.hid ((Lg.start w).alloc (.cells #[.slice A1 d.X.length k1, .slice A2 d.P.length k2, .slice A3 d.H.length k3] 29))
  cases hd : docB d with
  | false =>
    replace HD := Lib.hid (fun W hb => (HD.out W hb).mono fun _ _ h => Tell.to h hd)
    rw [marksD_no hd]; clear hd
    go_enter Try.func28, Try.ntmps28
    go_wp2_with fail
    refine (HD.out _ HL.out.bel).mono ?_
    rintro e w1 ⟨rfl, hb1⟩
    replace HL := Lib.hid (HL.out.lift hb1); clear hb1
    go_wp2
    go_ret
    refine ⟨_, rfl, own_empty (heap_alloc_new w1 (.cells #[] 113)) w.heap.size 2 HL.out.bel.size, ?_⟩
    exact HL.out.bel.trans ((Below.refl _ _).alloc HL.out.bel.size _)
  | true =>
    replace HD := Lib.hid (fun W hb => (HD.out W hb).mono fun _ _ h => Tell.to h hd)
    have h60 : d.X.length ≤ 60 := ((docB_iff d).1 hd).1.1
    replace HM := Lib.hid (HM.out (by omega))
    rw [marksD_yes hd]; clear hd
    go_enter Try.func28, Try.ntmps28
    go_wp2_with fail
    refine (HD.out _ HL.out.bel).mono ?_
    rintro e w1 ⟨rfl, hb1⟩
    replace HL := Lib.hid (HL.out.lift hb1); clear hb1
    obtain ⟨x0, x1, x2⟩ := box3 (HL.out.blk _ List.mem_cons_self)
    go_wp2_with fail
    refine (HM.out _ HL.out.bel).mono ?_
    rintro e w2 ⟨v2, rfl, ho, hb2⟩
    obtain ⟨B, cB, rfl⟩ := ho.form
    have HO := Lib.hid (ho.base HL.out.bel.size)
    replace HL := Lib.hid (HL.out.lift hb2); clear ho hb2
    go_wp2
    go_ret
    exact ⟨_, rfl, HO.out, HL.out.bel⟩

end Go.Proofs.Ytaggmcdfggmlhaa
