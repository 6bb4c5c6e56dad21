/-
  Contracts of what tells whether a name, an item is right.
-/
import Derived.Test.YtghiipoeedfkhaaProg
import Derived.Test.YtghiipoeedfkhaaEqN
import Derived.ProofKit
import Derived.WalkLawsBesides
import Derived.Laws.StructEq
namespace Go.Proofs.Ytghiipoeedfkhaa
set_option linter.unusedSimpArgs false
set_option linter.unusedVariables false
open Go.ChangeShapes Go.WideShapes Go.ChangeAt Go.RowKit

theorem spec_none (n : Nm) (w : World) :
    Calls Try.prog 171 #[vN n] w (Tell (eqN n no) w) := by
  go_enter Try.func171, Try.ntmps171
  go_wp2
  go_ret
  exact ⟨rfl, by (repeat (first | with_reducible refine bset ?_ _ (by omega) | with_reducible refine ball ?_ _ (by first | exact Nat.le_refl _ | (simp only [World.size_alloc, World.size_setCell]; omega)) | with_reducible exact Below.refl _ _ | with_reducible refine Below.drew ?_))⟩

theorem impl_none (n : Nm) (w : World) :
    Calls Try.prog 183 #[vN n] w (Tell (eqN n no) w) := by
  go_enter Try.func183, Try.ntmps183
  go_wp2
  go_ret
  exact ⟨rfl, by (repeat (first | with_reducible refine bset ?_ _ (by omega) | with_reducible refine ball ?_ _ (by first | exact Nat.le_refl _ | (simp only [World.size_alloc, World.size_setCell]; omega)) | with_reducible exact Below.refl _ _ | with_reducible refine Below.drew ?_))⟩

theorem spec_is (n lo hi : Int) (w : World) :
    Calls Try.prog 67 #[.int .i64 n, .int .i64 lo, .int .i64 hi] w (Tell (decide (lo ≤ n ∧ n ≤ hi)) w) := by
  go_enter Try.func67, Try.ntmps67
  go_wp2
  all_goals
    go_ret
    refine ⟨ret_bool ?_, by (repeat (first | with_reducible refine bset ?_ _ (by omega) | with_reducible refine ball ?_ _ (by first | exact Nat.le_refl _ | (simp only [World.size_alloc, World.size_setCell]; omega)) | with_reducible exact Below.refl _ _ | with_reducible refine Below.drew ?_))⟩
    rw [Bool.eq_iff_iff]
    simp
    omega

theorem spec_time (n : Int) (w : World) :
    Calls Try.prog 173 #[.int .i64 n] w (Tell (decide (0 ≤ n ∧ n ≤ 1000000)) w) := by
  go_enter Try.func173, Try.ntmps173
  go_wp2_with fail
  refine (spec_is n 0 1000000 _).mono ?_
  rintro e w' ⟨rfl, hb⟩
  go_wp2
  go_ret
  exact ⟨ret_bool (by simp), hb⟩

theorem spec_id (n : Nm) (w : World) :
    Calls Try.prog 127 #[vN n] w (Tell (idB n) w) := by
  by_cases h1 : 1 ≤ n.c ∧ n.c ≤ 9999
  · have H1 := Lib.hid (fun W => (spec_is n.c 1 9999 W).mono fun _ _ h => Tell.to h (decide_eq_true h1))
    go_enter Try.func127, Try.ntmps127
    go_wp2_with fail
    refine (H1.out _).mono ?_
    rintro e w1 ⟨rfl, hb1⟩
    obtain ⟨hc, hf⟩ := bcell hb1
    have HB := Lib.hid (below_alloc_call (Below.refl w.heap.size w) (Nat.le_refl _) hb1)
    clear hb1
    go_wp2_with fail
    refine (spec_time _ _).mono ?_
    rintro e w2 ⟨rfl, hb2⟩
    go_wp2
    go_ret
    refine ⟨ret_bool ?_, below_call HB.out HB.out.size hb2⟩
    unfold idB IdP; simp_all
  · have H1 := Lib.hid (fun W => (spec_is n.c 1 9999 W).mono fun _ _ h => Tell.to h (decide_eq_false h1))
    go_enter Try.func127, Try.ntmps127
    go_wp2_with fail
    refine (H1.out _).mono ?_
    rintro e w1 ⟨rfl, hb1⟩
    obtain ⟨hc, hf⟩ := bcell hb1
    have HB := Lib.hid (below_alloc_call (Below.refl w.heap.size w) (Nat.le_refl _) hb1)
    clear hb1
    go_wp2
    go_ret
    refine ⟨ret_bool ?_, HB.out⟩
    unfold idB IdP
    symm; apply decide_eq_false; omega

theorem char_no (t : ByteArray) (h : ¬ t.size = 1) : charB t = false := decide_eq_false fun ⟨h', _⟩ => h h'
theorem spec_char (t : ByteArray) (w : World) (_ : t.size ≤ maxLen) :
    Calls Try.prog 172 #[.string t] w (Tell (charB t) w) := by
  by_cases h : t.size = 1
  · have hs : ((t.size : Int) == 1) = true := by simp; omega
    have hlt : 0 < t.size := by omega
    have H := Lib.hid h; clear h
    go_enter Try.func172, Try.ntmps172
    go_wp2
    all_goals
      go_ret
      refine ⟨ret_bool ?_, by (repeat (first | with_reducible refine bset ?_ _ (by omega) | with_reducible refine ball ?_ _ (by first | exact Nat.le_refl _ | (simp only [World.size_alloc, World.size_setCell]; omega)) | with_reducible exact Below.refl _ _ | with_reducible refine Below.drew ?_))⟩
      symm
      rw [Bool.eq_iff_iff, charB_iff]
      simp only [decide_eq_true_eq, Bool.false_eq_true, iff_false]
      first
      | exact ⟨fun ⟨_, _, h2⟩ => by omega, fun h2 => ⟨H.out, by omega, by omega⟩⟩
      | (rintro ⟨h', h1, h2⟩; omega)
  · have hs : ((t.size : Int) == 1) = false := by simp; omega
    go_enter Try.func172, Try.ntmps172
    go_wp2
    all_goals
      go_ret
      exact ⟨ret_bool (char_no t h).symm, by (repeat (first | with_reducible refine bset ?_ _ (by omega) | with_reducible refine ball ?_ _ (by first | exact Nat.le_refl _ | (simp only [World.size_alloc, World.size_setCell]; omega)) | with_reducible exact Below.refl _ _ | with_reducible refine Below.drew ?_))⟩

theorem impl_printed (n : Int) (w : World) :
    Calls Try.prog 101 #[.int .i32 n] w (Tell (decide (32 ≤ n ∧ n ≤ 126)) w) := by
  go_enter Try.func101, Try.ntmps101
  go_wp2
  all_goals
    go_ret
    refine ⟨ret_bool ?_, by (repeat (first | with_reducible refine bset ?_ _ (by omega) | with_reducible refine ball ?_ _ (by first | exact Nat.le_refl _ | (simp only [World.size_alloc, World.size_setCell]; omega)) | with_reducible exact Below.refl _ _ | with_reducible refine Below.drew ?_))⟩
    rw [Bool.eq_iff_iff]
    simp
    omega

theorem impl_client (n : Int) (w : World) :
    Calls Try.prog 45 #[.int .i64 n] w (Tell (decide (1 ≤ n ∧ n ≤ 9999)) w) := by
  go_enter Try.func45, Try.ntmps45
  go_wp2
  all_goals
    go_ret
    refine ⟨ret_bool ?_, by (repeat (first | with_reducible refine bset ?_ _ (by omega) | with_reducible refine ball ?_ _ (by first | exact Nat.le_refl _ | (simp only [World.size_alloc, World.size_setCell]; omega)) | with_reducible exact Below.refl _ _ | with_reducible refine Below.drew ?_))⟩
    rw [Bool.eq_iff_iff]
    simp
    omega

theorem impl_id (n : Nm) (w : World) :
    Calls Try.prog 112 #[vN n] w (Tell (idB n) w) := by
  by_cases h1 : 1 ≤ n.c ∧ n.c ≤ 9999
  · have H1 := Lib.hid (fun W => (impl_client n.c W).mono fun _ _ h => Tell.to h (decide_eq_true h1))
    go_enter Try.func112, Try.ntmps112
    go_wp2_with fail
    refine (H1.out _).mono ?_
    rintro e w1 ⟨rfl, hb1⟩
    obtain ⟨hc, hf⟩ := bcell hb1
    have HB := Lib.hid (below_alloc_call (Below.refl w.heap.size w) (Nat.le_refl _) hb1)
    clear hb1
    go_wp2
    all_goals
      go_ret
      refine ⟨ret_bool ?_, HB.out⟩
      rw [Bool.eq_iff_iff, idB_iff]
      unfold IdP
      simp
      omega
  · have H1 := Lib.hid (fun W => (impl_client n.c W).mono fun _ _ h => Tell.to h (decide_eq_false h1))
    go_enter Try.func112, Try.ntmps112
    go_wp2_with fail
    refine (H1.out _).mono ?_
    rintro e w1 ⟨rfl, hb1⟩
    obtain ⟨hc, hf⟩ := bcell hb1
    have HB := Lib.hid (below_alloc_call (Below.refl w.heap.size w) (Nat.le_refl _) hb1)
    clear hb1
    go_wp2
    go_ret
    refine ⟨ret_bool ?_, HB.out⟩
    unfold idB IdP
    symm; apply decide_eq_false; omega


/-- Between what an item was written. -/
def Mid (x : Im) : Prop := (x.l = no ∨ IdP x.l) ∧ (x.r = no ∨ IdP x.r) ∧ x.l ≠ x.i ∧ x.r ≠ x.i ∧ (x.l ≠ x.r ∨ x.l = no)
instance (x : Im) : Decidable (Mid x) := by unfold Mid; infer_instance
def midB (x : Im) : Bool := decide (Mid x)
theorem midB_iff (x : Im) : midB x = true ↔ Mid x := decide_eq_true_iff

theorem pair_first (a b c d : Value) (W : World) : (Instr.index 216 (.agg #[a, b, c, d]) (.int .i64 0)).run Try.prog W = .ok (.agg #[a, b]) W := by
  simp [Instr.index, asIntOf, run_underlying Try.underlying216, go_sem, Try.sizeOf66, part, Try.isAgg66]
theorem pair_second (a b c d : Value) (W : World) : (Instr.index 216 (.agg #[a, b, c, d]) (.int .i64 1)).run Try.prog W = .ok (.agg #[c, d]) W := by
  simp [Instr.index, asIntOf, run_underlying Try.underlying216, go_sem, Try.sizeOf66, part, Try.isAgg66]


set_option maxRecDepth 100000 in
set_option maxHeartbeats 4000000 in
theorem impl_between (x : Im) (w : World) :
    Calls Try.prog 160 #[vM x] w (Tell (midB x) w) := by
  have p1 := pair_first (.int .i64 x.l.c) (.int .i64 x.l.k) (.int .i64 x.r.c) (.int .i64 x.r.k)
  have p2 := pair_second (.int .i64 x.l.c) (.int .i64 x.l.k) (.int .i64 x.r.c) (.int .i64 x.r.k)
  go_enter Try.func160, Try.ntmps160
  go_wp2
  refine wp_loop_rounds 3 ?_
  rw [rounds_succ]
  go_wp2_with (first
    | (go_at_call 183; refine (impl_none _ _).mono ?_; rintro e w1 ⟨rfl, hb1⟩; obtain ⟨hc, hf⟩ := bcell hb1; have hz := hb1.size; simp only [World.size_alloc] at hz; have hz0 : w.heap.size < w1.heap.size := (by omega); have hz1 : w.heap.size + 1 < w1.heap.size := (by omega); have HB := Lib.hid (show Below w.heap.size w w1 from below_call (by (repeat (first | with_reducible refine bset ?_ _ (by omega) | with_reducible refine ball ?_ _ (by first | exact Nat.le_refl _ | (simp only [World.size_alloc, World.size_setCell]; omega)) | with_reducible exact Below.refl _ _ | with_reducible refine Below.drew ?_))) (by (first | (simp; done) | (simp; omega) | omega)) hb1); clear hb1)
    | (go_at_call 112; refine (impl_id _ _).mono ?_; rintro e w2 ⟨rfl, hb2⟩; obtain ⟨hc2, hf2⟩ := bcell hb2; have hz2 := hb2.size; have hz20 : w.heap.size < w2.heap.size := (by omega); have hz21 : w.heap.size + 1 < w2.heap.size := (by omega); have HB2 := Lib.hid (show Below w.heap.size w w2 from below_call HB.out HB.out.size hb2); clear HB hb2; have HB := HB2; clear HB2))
  all_goals first
    | (go_ret; refine ⟨ret_bool ?_, by first | exact HB.out | (refine Below.trans HB.out ?_; (repeat (first | with_reducible refine bset ?_ _ (by omega) | with_reducible refine ball ?_ _ (by first | exact Nat.le_refl _ | (simp only [World.size_alloc, World.size_setCell]; omega)) | with_reducible exact Below.refl _ _ | with_reducible refine Below.drew ?_)))⟩; clear HB hc hf hz p1 p2; rw [eq_comm, Bool.eq_iff_iff, midB_iff]; unfold Mid; simp_all [eqN_iff, eqN_ff, idB_iff]; done)
    | skip
  all_goals
    rw [rounds_succ]
    go_wp2_with (first
      | (go_at_call 183; refine (impl_none _ _).mono ?_; rintro e w3 ⟨rfl, hb3⟩; obtain ⟨hc3, hf3⟩ := bcell hb3; have hz3 := hb3.size; (try simp only [World.size_alloc] at hz3); have hz30 : w.heap.size < w3.heap.size := (by omega); have hz31 : w.heap.size + 1 < w3.heap.size := (by omega); (try have hy1 : w1.heap.size < w3.heap.size := (by omega)); (try have hy2 : w2.heap.size < w3.heap.size := (by omega)); have HB3 := Lib.hid (show Below w.heap.size w w3 from below_call (by first | exact HB.out | (refine Below.alloc HB.out ?_ _; omega)) (by (first | (simp; done) | (simp; omega) | omega)) hb3); clear HB hb3; have HB := HB3; clear HB3)
      | (go_at_call 112; refine (impl_id _ _).mono ?_; rintro e w4 ⟨rfl, hb4⟩; obtain ⟨hc4, hf4⟩ := bcell hb4; have hz4 := hb4.size; have hz40 : w.heap.size < w4.heap.size := (by omega); have hz41 : w.heap.size + 1 < w4.heap.size := (by omega); (try have hx1 : w1.heap.size < w4.heap.size := (by omega)); (try have hx2 : w2.heap.size < w4.heap.size := (by omega)); have HB2 := Lib.hid (show Below w.heap.size w w4 from below_call HB.out HB.out.size hb4); clear HB hb4; have HB := HB2; clear HB2))
  all_goals first
    | (go_ret; refine ⟨ret_bool ?_, by first | exact HB.out | (refine Below.trans HB.out ?_; (repeat (first | with_reducible refine bset ?_ _ (by omega) | with_reducible refine ball ?_ _ (by first | exact Nat.le_refl _ | (simp only [World.size_alloc, World.size_setCell]; omega)) | with_reducible exact Below.refl _ _ | with_reducible refine Below.drew ?_)))⟩; clear HB hc hf hz p1 p2; rw [eq_comm, Bool.eq_iff_iff, midB_iff]; unfold Mid; simp_all [eqN_iff, eqN_ff, idB_iff]; done)
    | skip
  all_goals
    rw [rounds_succ]
    go_wp2_with (first
      | (go_at_call 183; refine (impl_none _ _).mono ?_; rintro e w5 ⟨rfl, hb5⟩; have HB3 := Lib.hid (show Below w.heap.size w w5 from below_call HB.out HB.out.size hb5); clear HB hb5; have HB := HB3; clear HB3))
  all_goals first
    | (go_ret; refine ⟨ret_bool ?_, by first | exact HB.out | (refine Below.trans HB.out ?_; (repeat (first | with_reducible refine bset ?_ _ (by omega) | with_reducible refine ball ?_ _ (by first | exact Nat.le_refl _ | (simp only [World.size_alloc, World.size_setCell]; omega)) | with_reducible exact Below.refl _ _ | with_reducible refine Below.drew ?_)))⟩; clear HB hc hf hz p1 p2; rw [eq_comm, Bool.eq_iff_iff, midB_iff]; unfold Mid; simp_all [eqN_iff, eqN_ff, idB_iff]; done)
    | skip

  all_goals (go_ret; refine ⟨ret_bool ?_, ?_⟩; rotate_left; first | exact HB.out | (refine Below.trans HB.out ?_; (repeat (first | with_reducible refine bset ?_ _ (by omega) | with_reducible refine ball ?_ _ (by first | exact Nat.le_refl _ | (simp only [World.size_alloc, World.size_setCell]; omega)) | with_reducible exact Below.refl _ _ | with_reducible refine Below.drew ?_))); rw [eq_comm, Bool.eq_iff_iff, midB_iff]; unfold Mid; simp_all [eqN_iff, eqN_ff, idB_iff])

/-- ItemRight of an item, in its parts. -/
theorem item_mid (x : Im) : itemB x = (idB x.i && midB x && charB x.t) := by
  rw [Bool.eq_iff_iff, itemB_iff]
  simp only [Bool.and_eq_true, idB_iff, midB_iff, charB_iff]
  unfold ItemP Mid
  exact ⟨fun ⟨a, b, c, d, e, f, g⟩ => ⟨⟨a, b, c, e, f, g⟩, d⟩, fun ⟨⟨a, b, c, e, f, g⟩, d⟩ => ⟨a, b, c, d, e, f, g⟩⟩

end Go.Proofs.Ytghiipoeedfkhaa
