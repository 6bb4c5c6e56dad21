/-
  Items marked gone: the mathematics; a store of it into an own row; the model's live place.
-/
import Derived.Test.YtmkcfjopneaimaaText
import Derived.Test.YtmkcfjopneaimaaMarkI
namespace Go.Proofs.Ytmkcfjopneaimaa
set_option linter.unusedSimpArgs false
set_option linter.unusedVariables false
open Go.ChangeShapes Go.WideShapes Go.ChangeAt Go.RowKit

/-- The n-th item is gone. -/
def setG : List Im → Nat → List Im
  | [], _ => []
  | x :: l, 0 => { x with g := true } :: l
  | x :: l, n + 1 => x :: setG l n
theorem setG_len : ∀ (l : List Im) (n : Nat), (setG l n).length = l.length
  | [], _ => rfl
  | _ :: _, 0 => rfl
  | _ :: l, n + 1 => by simp [setG, setG_len l n]
theorem liveFrom_ge {l : List Im} {k : Nat} {p : Int} (h : p ∈ liveFrom k l) : (k : Int) ≤ p := by
  obtain ⟨n, _, rfl, _⟩ := liveFrom_mem l k p h
  omega
theorem live_setG : ∀ (l : List Im) (k n a : Nat), (liveFrom k l)[a]? = some (((k + n : Nat) : Nat) : Int) → liveFrom k (setG l n) = (liveFrom k l).eraseIdx a
  | [], k, n, a, h => by simp [liveFrom] at h
  | x :: l, k, 0, a, h => by
    rw [liveFrom_cons] at h
    simp only [setG, liveFrom_cons]
    cases hx : x.g with
    | true =>
      rw [hx, if_pos rfl] at h
      have := liveFrom_ge (List.mem_of_getElem? h)
      omega
    | false =>
      rw [hx] at h
      simp only [Bool.false_eq_true, if_false] at h
      cases a with
      | zero => simp
      | succ a =>
        rw [List.getElem?_cons_succ] at h
        have := liveFrom_ge (List.mem_of_getElem? h)
        omega
  | x :: l, k, n + 1, a, h => by
    rw [liveFrom_cons] at h
    simp only [setG, liveFrom_cons]
    have e : k + (n + 1) = k + 1 + n := by omega
    rw [e] at h
    cases hx : x.g with
    | true =>
      rw [hx, if_pos rfl] at h
      simp only [if_true]
      exact live_setG l (k + 1) n a h
    | false =>
      rw [hx] at h
      simp only [Bool.false_eq_true, if_false] at h ⊢
      cases a with
      | zero =>
        simp only [List.getElem?_cons_zero, Option.some.injEq] at h
        omega
      | succ a =>
        rw [List.getElem?_cons_succ] at h
        rw [List.eraseIdx_cons_succ, live_setG l (k + 1) n a h]
theorem liveI_setG {l : List Im} {n a : Nat} (h : (liveI l)[a]? = some (n : Int)) : liveI (setG l n) = (liveI l).eraseIdx a := live_setG l 0 n a (by rw [Nat.zero_add]; exact h)
/-- The items at these places are gone. -/
def goneL (l : List Im) (ps : List Int) : List Im := ps.foldl (fun l p => setG l p.toNat) l
theorem goneL_snoc (l : List Im) (ps : List Int) (p : Int) : goneL l (ps ++ [p]) = setG (goneL l ps) p.toNat := by simp [goneL]
theorem goneL_len (l : List Im) (ps : List Int) : (goneL l ps).length = l.length := by
  induction ps generalizing l with
  | nil => rfl
  | cons p ps ih => simp only [goneL, List.foldl_cons] at ih ⊢; rw [ih, setG_len]
theorem drop_take_snoc {α : Type} (l : List α) (a j : Nat) (h : a + j < l.length) : (l.drop a).take (j + 1) = (l.drop a).take j ++ [l[a + j]] := by
  rw [List.take_add_one, List.getElem?_drop, List.getElem?_eq_getElem h]
  rfl
/-- Behind j rounds the j live ones from a on are gone. -/
def goneJ (l : List Im) (a j : Nat) : List Im := goneL l (((liveI l).drop a).take j)
theorem goneJ_zero (l : List Im) (a : Nat) : goneJ l a 0 = l := rfl
theorem goneJ_len (l : List Im) (a j : Nat) : (goneJ l a j).length = l.length := goneL_len l _
theorem goneJ_succ {l : List Im} {a j : Nat} (h : a + j < (liveI l).length) : goneJ l a (j + 1) = setG (goneJ l a j) ((liveI l)[a + j]).toNat := by
  unfold goneJ
  rw [drop_take_snoc _ _ _ h, goneL_snoc]
theorem erase_mid {α : Type} (l : List α) (a j : Nat) (h : a + j < l.length) : (l.take a ++ l.drop (a + j)).eraseIdx a = l.take a ++ l.drop (a + (j + 1)) := by
  have ha : (l.take a).length = a := by rw [List.length_take]; omega
  have e : l.drop (a + j) = l[a + j] :: l.drop (a + j + 1) := List.drop_eq_getElem_cons h
  rw [e]
  have := List.eraseIdx_append_of_length_le (l := l.take a) (k := a) (by omega) (l[a + j] :: l.drop (a + j + 1))
  rw [this, ha, Nat.sub_self, List.eraseIdx_cons_zero, Nat.add_assoc]
theorem goneJ_live {l : List Im} {a : Nat} : ∀ j : Nat, a + j ≤ (liveI l).length → liveI (goneJ l a j) = (liveI l).take a ++ (liveI l).drop (a + j)
  | 0, _ => by rw [goneJ_zero, Nat.add_zero, List.take_append_drop]
  | j + 1, h => by
    have ih := goneJ_live (l := l) (a := a) j (by omega)
    obtain ⟨n, hn, e, hl⟩ := liveI_at (l := l) (k := a + j) (by omega)
    rw [goneJ_succ (by omega), e, Int.toNat_natCast, liveI_setG (a := a), ih, erase_mid _ _ _ (by omega)]
    rw [ih]
    have ha : ((liveI l).take a).length = a := by rw [List.length_take]; omega
    rw [List.getElem?_append_right (by omega), ha, Nat.sub_self, List.getElem?_drop, Nat.add_zero, List.getElem?_eq_getElem (by omega), e]
theorem goneJ_at {l : List Im} {a j : Nat} (h : a + j < (liveI l).length) : (liveI (goneJ l a j))[a]? = some ((liveI l)[a + j]) := by
  rw [goneJ_live j (by omega)]
  have ha : ((liveI l).take a).length = a := by rw [List.length_take]; omega
  rw [List.getElem?_append_right (by omega), ha, Nat.sub_self, List.getElem?_drop, Nat.add_zero, List.getElem?_eq_getElem h]
theorem setG_ones {l : List Im} (h : Ones l) : ∀ n, Ones (setG l n) := by
  intro n x hx
  induction l generalizing n with
  | nil => simp [setG] at hx
  | cons y l ih =>
    cases n with
    | zero =>
      simp only [setG, List.mem_cons] at hx
      rcases hx with rfl | hx
      · exact h y List.mem_cons_self
      · exact h x (List.mem_cons_of_mem _ hx)
    | succ n =>
      simp only [setG, List.mem_cons] at hx
      rcases hx with rfl | hx
      · exact h _ List.mem_cons_self
      · exact ih (fun z hz => h z (List.mem_cons_of_mem _ hz)) n hx
theorem setG_enc : ∀ (l : List Im) (n : Nat), n < l.length → ((l.flatMap encM).set (n * 8 + 7) (.bool true)) = (setG l n).flatMap encM
  | [], n, h => absurd h (Nat.not_lt_zero _)
  | x :: l, 0, _ => by simp [setG, encM]
  | x :: l, n + 1, h => by
    simp only [setG, List.flatMap_cons]
    rw [← setG_enc l n (by simpa using h)]
    have e : (n + 1) * 8 + 7 = (encM x).length + (n * 8 + 7) := by simp [encM]; omega
    rw [e, List.set_append_right _ _ (by omega), Nat.add_sub_cancel_left]
theorem own_setG {w : World} {base : Nat} {g c n : Nat} {L : List Im} (h : Ow w base 30 8 encM (.slice (some ⟨g, 0, none⟩) L.length c) L) (hn : n < L.length) : Ow (w.setCell ⟨g, n * 8 + 7, none⟩ (.bool true)) base 30 8 encM (.slice (some ⟨g, 0, none⟩) L.length c) (setG L n) := by
  have h2 := (World.ownsRow.stored h (n * 8 + 7) (.bool true)).1
  unfold Ow
  rw [← setG_enc L n hn, setG_len]
  exact h2

set_option maxRecDepth 100000 in
set_option maxHeartbeats 4000000 in
theorem spec_live (v : Value) (l : List Im) (a n : Nat) (w : World) (hv : Sl w w.heap.size 8 encM v l) (hl : l.length ≤ 1048576) (ha : (liveI l)[a]? = some (n : Int)) :
    Calls Try.prog 75 #[v, .int .i64 (a : Int)] w fun e w' => e = .returned (.int .i64 (n : Int)) ∧ Below w.heap.size w w' := by
  obtain ⟨A, c, rfl⟩ := hv.form
  have hal : a < (liveI l).length := by
    by_cases h : a < (liveI l).length
    · exact h
    · rw [List.getElem?_eq_none (by omega)] at ha
      cases ha
  have := liveI_len l
  have HA := Lib.hid ha; have HV := Lib.hid hv
  clear ha hv
  have haa : a ≤ l.length := by omega
  have HAL := Lib.hid hal; clear hal
  go_enter Try.func75, Try.ntmps75
  go_wp2
  go_loop [1, 5] (fun t i => ∃ k q : Nat, k ≤ l.length ∧ i = .int .i64 (k : Int) ∧ t = .int .i64 (q : Int) ∧ q + (liveI (l.take k)).length = a) (fun _ i => l.length - (intOf i).toNat)
  case atStart => exact ⟨0, a, by omega, rfl, rfl, rfl⟩
  case round =>
    obtain ⟨k, q, hk, rfl, rfl, hq⟩ := hrel
    have hqa : q ≤ l.length := by omega
    have HQ := Lib.hid hq; clear hq
    by_cases hlt : k < l.length
    · obtain ⟨ad, c', e', _, c0, c1, c2, c3, c4, c5, c6, c7⟩ := HV.out.item k hlt
      simp only [Value.slice.injEq, true_and] at e'
      obtain ⟨rfl, rfl⟩ := e'
      cases hx : l[k].g with
      | true =>
        rw [hx] at c7
        have HL := Lib.hid (liveI_gone hlt hx); clear hx
        go_wp2
        go_round
        case rel => exact ⟨k + 1, q, by omega, by go_num, rfl, by rw [HL.out]; exact HQ.out⟩
        case measure => simp [intOf]; omega
      | false =>
        rw [hx] at c7
        have HL := Lib.hid (liveI_live hlt hx)
        have HX := Lib.hid hx; clear hx
        by_cases h0 : q = 0
        · subst h0
          have HR := Lib.hid (show ((n : Nat) : Int) = ((k : Nat) : Int) from by
            have hc := HQ.out
            rw [Nat.zero_add] at hc
            have h1 : (liveI l)[(liveI (l.take k)).length]? = some (k : Int) := by
              have e := liveFrom_append (l.take (k + 1)) (l.drop (k + 1)) 0
              rw [List.take_append_drop] at e
              change liveI l = liveI (l.take (k + 1)) ++ _ at e
              rw [e, HL.out, List.append_assoc, List.getElem?_append_right (Nat.le_refl _), Nat.sub_self]
              rfl
            rw [hc, HA.out] at h1
            simpa using h1)
          go_wp2
          go_ret
          refine ⟨?_, Below.refl _ _⟩
          rw [HR.out]
          rfl
        · have e0 : ((q : Int) == 0) = false := by simp; omega
          go_wp2
          go_round
          case rel => exact ⟨k + 1, q - 1, by omega, by go_num, by go_num, by rw [HL.out]; have := HQ.out; simp only [List.length_append, List.length_cons, List.length_nil]; omega⟩
          case measure => simp [intOf]; omega
    · exfalso
      have hkl : k = l.length := by omega
      subst hkl
      have h1 := HQ.out
      rw [List.take_length] at h1
      have := HAL.out
      omega

end Go.Proofs.Ytmkcfjopneaimaa
