/-
  Contracts of PlaceOf and NextOf, of the model and of the program.
-/
import Derived.Test.YtmkcfjopneaimaaSDoc
import Derived.Test.YtmkcfjopneaimaaIDoc
import Derived.Test.YtmkcfjopneaimaaEqDoc
namespace Go.Proofs.Ytmkcfjopneaimaa
set_option linter.unusedSimpArgs false
set_option linter.unusedVariables false
open Go.ChangeShapes Go.WideShapes Go.ChangeAt Go.RowKit

/-- Lists and texts as a walk wants them. -/
def Fit (d : Dc) : Prop := (d.X.length ≤ 140737488351232 ∧ d.P.length ≤ 140737488351232 ∧ d.H.length ≤ 140737488351232) ∧ (∀ x ∈ d.X, x.t.size ≤ maxLen) ∧ ∀ x ∈ d.P, x.t.size ≤ maxLen
noncomputable def placeI (d : Dc) (n : Nm) : Int := if docB d = true then atOf d.X n else -1
noncomputable def nextI (d : Dc) (c : Int) : Int := if docB d = true then nextOf d.X c else 0
theorem placeI_yes {d : Dc} (n : Nm) (h : docB d = true) : placeI d n = atOf d.X n := if_pos h
theorem placeI_no {d : Dc} (n : Nm) (h : docB d = false) : placeI d n = -1 := if_neg (by rw [h]; exact Bool.false_ne_true)
theorem nextI_yes {d : Dc} (c : Int) (h : docB d = true) : nextI d c = nextOf d.X c := if_pos h
theorem nextI_no {d : Dc} (c : Int) (h : docB d = false) : nextI d c = 0 := if_neg (by rw [h]; exact Bool.false_ne_true)
theorem spec_docF (v : Value) (d : Dc) (w : World) (hv : DcAt w w.heap.size v d) (hf : Fit d) : Calls Try.prog 15 #[v] w (Tell (docB d) w) := spec_doc v d w hv hf.1.1 hf.1.2.1 hf.1.2.2 hf.2
theorem eq_docF (v1 v2 : Value) (d : Dc) (w : World) (h1 : DcAt w w.heap.size v1 d) (h2 : DcAt w w.heap.size v2 d) (hf : Fit d) : Calls Try.prog 18 #[v1, v2] w (Yes w) := eq_doc v1 v2 d w h1 h2 hf.1.1 hf.1.2.1 hf.1.2.2
theorem impl_docF (v : Value) (d : Dc) (w : World) (hv : DcAt w w.heap.size v d) (hf : Fit d) : Calls Try.prog 17 #[v] w (Tell (docB d) w) := impl_doc v d w hv hf.1.1 hf.1.2.1 hf.1.2.2 hf.2

set_option maxRecDepth 100000 in
theorem spec_placeOf (v : Value) (d : Dc) (n : Nm) (w : World) (hv : DcAt w w.heap.size v d) (hf : Fit d) :
    Calls Try.prog 21 #[v, vN n] w (Back (.int .i64 (placeI d n)) w) := by
  have HD := Lib.hid (fun W (hb : Below w.heap.size w W) => spec_docF v d W ((hv.below hb).more hb.size) hf)
  obtain ⟨vx, vp, vh, rfl, hx, hp, hh⟩ := hv
  have HA := Lib.hid (fun W (hb : Below w.heap.size w W) => spec_at vx d.X n W ((hx.below hb).more hb.size) hf.1.1)
  obtain ⟨A1, k1, rfl⟩ := hx.form; obtain ⟨A2, k2, rfl⟩ := hp.form; obtain ⟨A3, k3, rfl⟩ := hh.form
  clear hx hp hh hf
  have hL := ((Lg.start w).alloc (.cells #[.slice A1 d.X.length k1, .slice A2 d.P.length k2, .slice A3 d.H.length k3] 42)).alloc (.cells #[.int .i64 n.c, .int .i64 n.k] 28)
  simp only [World.size_alloc] at hL
  have HL := Lib.hid hL; clear hL
  cases hd : docB d with
  | false =>
    replace HD := Lib.hid (fun W hb => (HD.out W hb).mono fun _ _ h => Tell.to h hd)
    have HE := Lib.hid (placeI_no n hd); clear hd
    go_enter Try.func21, Try.ntmps21
    go_wp2_with fail
    refine (HD.out _ HL.out.bel).mono ?_
    rintro e w1 ⟨rfl, hb1⟩
    replace HL := Lib.hid (HL.out.lift hb1); clear hb1
    go_wp2
    go_ret
    exact ⟨ret_i64 HE.out.symm, HL.out.bel⟩
  | true =>
    replace HD := Lib.hid (fun W hb => (HD.out W hb).mono fun _ _ h => Tell.to h hd)
    have HE := Lib.hid (placeI_yes n hd); clear hd
    go_enter Try.func21, Try.ntmps21
    go_wp2_with fail
    refine (HD.out _ HL.out.bel).mono ?_
    rintro e w1 ⟨rfl, hb1⟩
    replace HL := Lib.hid (HL.out.lift hb1); clear hb1
    obtain ⟨b0, b1⟩ := box2 (HL.out.blk _ List.mem_cons_self)
    obtain ⟨x0, x1, x2⟩ := box3 (HL.out.blk _ (List.mem_cons_of_mem _ List.mem_cons_self))
    go_wp2_with fail
    refine (HA.out _ HL.out.bel).mono ?_
    rintro e w2 ⟨rfl, hb2⟩
    replace HL := Lib.hid (HL.out.lift hb2); clear hb2
    go_wp2
    go_ret
    exact ⟨ret_i64 HE.out.symm, HL.out.bel⟩

set_option maxRecDepth 100000 in
theorem impl_placeOf (v : Value) (d : Dc) (n : Nm) (w : World) (hv : DcAt w w.heap.size v d) (hf : Fit d) :
    Calls Try.prog 23 #[v, vN n] w (Back (.int .i64 (placeI d n)) w) := by
  have HD := Lib.hid (fun W (hb : Below w.heap.size w W) => impl_docF v d W ((hv.below hb).more hb.size) hf)
  obtain ⟨vx, vp, vh, rfl, hx, hp, hh⟩ := hv
  have HA := Lib.hid (fun W (hb : Below w.heap.size w W) => impl_place vx d.X n W ((hx.below hb).more hb.size) hf.1.1)
  obtain ⟨A1, k1, rfl⟩ := hx.form; obtain ⟨A2, k2, rfl⟩ := hp.form; obtain ⟨A3, k3, rfl⟩ := hh.form
  clear hx hp hh hf
  have hL := ((Lg.start w).alloc (.cells #[.slice A1 d.X.length k1, .slice A2 d.P.length k2, .slice A3 d.H.length k3] 42)).alloc (.cells #[.int .i64 n.c, .int .i64 n.k] 28)
  simp only [World.size_alloc] at hL
  have HL := Lib.hid hL; clear hL
  cases hd : docB d with
  | false =>
    replace HD := Lib.hid (fun W hb => (HD.out W hb).mono fun _ _ h => Tell.to h hd)
    have HE := Lib.hid (placeI_no n hd); clear hd
    go_enter Try.func23, Try.ntmps23
    go_wp2_with fail
    refine (HD.out _ HL.out.bel).mono ?_
    rintro e w1 ⟨rfl, hb1⟩
    replace HL := Lib.hid (HL.out.lift hb1); clear hb1
    go_wp2
    go_ret
    exact ⟨ret_i64 HE.out.symm, HL.out.bel⟩
  | true =>
    replace HD := Lib.hid (fun W hb => (HD.out W hb).mono fun _ _ h => Tell.to h hd)
    have HE := Lib.hid (placeI_yes n hd); clear hd
    go_enter Try.func23, Try.ntmps23
    go_wp2_with fail
    refine (HD.out _ HL.out.bel).mono ?_
    rintro e w1 ⟨rfl, hb1⟩
    replace HL := Lib.hid (HL.out.lift hb1); clear hb1
    obtain ⟨b0, b1⟩ := box2 (HL.out.blk _ List.mem_cons_self)
    obtain ⟨x0, x1, x2⟩ := box3 (HL.out.blk _ (List.mem_cons_of_mem _ List.mem_cons_self))
    go_wp2_with fail
    refine (HA.out _ HL.out.bel).mono ?_
    rintro e w2 ⟨rfl, hb2⟩
    replace HL := Lib.hid (HL.out.lift hb2); clear hb2
    go_wp2
    go_ret
    exact ⟨ret_i64 HE.out.symm, HL.out.bel⟩

set_option maxRecDepth 100000 in
theorem spec_nextOf (v : Value) (d : Dc) (n : Int) (w : World) (hv : DcAt w w.heap.size v d) (hf : Fit d) :
    Calls Try.prog 24 #[v, .int .i64 n] w (Back (.int .i64 (nextI d n)) w) := by
  have HD := Lib.hid (fun W (hb : Below w.heap.size w W) => spec_docF v d W ((hv.below hb).more hb.size) hf)
  obtain ⟨vx, vp, vh, rfl, hx, hp, hh⟩ := hv
  have HA := Lib.hid (fun W (hb : Below w.heap.size w W) => spec_next vx d.X n W ((hx.below hb).more hb.size) hf.1.1)
  obtain ⟨A1, k1, rfl⟩ := hx.form; obtain ⟨A2, k2, rfl⟩ := hp.form; obtain ⟨A3, k3, rfl⟩ := hh.form
  clear hx hp hh hf
  have HL := Lib.hid ((Lg.start w).alloc (.cells #[.slice A1 d.X.length k1, .slice A2 d.P.length k2, .slice A3 d.H.length k3] 42))
  cases hd : docB d with
  | false =>
    replace HD := Lib.hid (fun W hb => (HD.out W hb).mono fun _ _ h => Tell.to h hd)
    have HE := Lib.hid (nextI_no n hd); clear hd
    go_enter Try.func24, Try.ntmps24
    go_wp2_with fail
    refine (HD.out _ HL.out.bel).mono ?_
    rintro e w1 ⟨rfl, hb1⟩
    replace HL := Lib.hid (HL.out.lift hb1); clear hb1
    go_wp2
    go_ret
    exact ⟨ret_i64 HE.out.symm, HL.out.bel⟩
  | true =>
    replace HD := Lib.hid (fun W hb => (HD.out W hb).mono fun _ _ h => Tell.to h hd)
    have HE := Lib.hid (nextI_yes n hd); clear hd
    go_enter Try.func24, Try.ntmps24
    go_wp2_with fail
    refine (HD.out _ HL.out.bel).mono ?_
    rintro e w1 ⟨rfl, hb1⟩
    replace HL := Lib.hid (HL.out.lift hb1); clear hb1
    obtain ⟨x0, x1, x2⟩ := box3 (HL.out.blk _ List.mem_cons_self)
    go_wp2_with fail
    refine (HA.out _ HL.out.bel).mono ?_
    rintro e w2 ⟨rfl, hb2⟩
    replace HL := Lib.hid (HL.out.lift hb2); clear hb2
    go_wp2
    go_ret
    exact ⟨ret_i64 HE.out.symm, HL.out.bel⟩

set_option maxRecDepth 100000 in
theorem impl_nextOf (v : Value) (d : Dc) (n : Int) (w : World) (hv : DcAt w w.heap.size v d) (hf : Fit d) :
    Calls Try.prog 25 #[v, .int .i64 n] w (Back (.int .i64 (nextI d n)) w) := by
  have HD := Lib.hid (fun W (hb : Below w.heap.size w W) => impl_docF v d W ((hv.below hb).more hb.size) hf)
  obtain ⟨vx, vp, vh, rfl, hx, hp, hh⟩ := hv
  have HA := Lib.hid (fun W (hb : Below w.heap.size w W) => impl_count vx d.X n W ((hx.below hb).more hb.size) hf.1.1)
  obtain ⟨A1, k1, rfl⟩ := hx.form; obtain ⟨A2, k2, rfl⟩ := hp.form; obtain ⟨A3, k3, rfl⟩ := hh.form
  clear hx hp hh hf
  have HL := Lib.hid ((Lg.start w).alloc (.cells #[.slice A1 d.X.length k1, .slice A2 d.P.length k2, .slice A3 d.H.length k3] 42))
  cases hd : docB d with
  | false =>
    replace HD := Lib.hid (fun W hb => (HD.out W hb).mono fun _ _ h => Tell.to h hd)
    have HE := Lib.hid (nextI_no n hd); clear hd
    go_enter Try.func25, Try.ntmps25
    go_wp2_with fail
    refine (HD.out _ HL.out.bel).mono ?_
    rintro e w1 ⟨rfl, hb1⟩
    replace HL := Lib.hid (HL.out.lift hb1); clear hb1
    go_wp2
    go_ret
    exact ⟨ret_i64 HE.out.symm, HL.out.bel⟩
  | true =>
    replace HD := Lib.hid (fun W hb => (HD.out W hb).mono fun _ _ h => Tell.to h hd)
    have HE := Lib.hid (nextI_yes n hd); clear hd
    go_enter Try.func25, Try.ntmps25
    go_wp2_with fail
    refine (HD.out _ HL.out.bel).mono ?_
    rintro e w1 ⟨rfl, hb1⟩
    replace HL := Lib.hid (HL.out.lift hb1); clear hb1
    obtain ⟨x0, x1, x2⟩ := box3 (HL.out.blk _ List.mem_cons_self)
    go_wp2_with fail
    refine (HA.out _ HL.out.bel).mono ?_
    rintro e w2 ⟨rfl, hb2⟩
    replace HL := Lib.hid (HL.out.lift hb2); clear hb2
    go_wp2
    go_ret
    exact ⟨ret_i64 HE.out.symm, HL.out.bel⟩

end Go.Proofs.Ytmkcfjopneaimaa
