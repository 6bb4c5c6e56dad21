/-
  Contracts of AreaFormat, of the program and of the model.
-/
import Derived.Test.YthchlfllcnlmjaaGreatDoorSent
import Derived.Test.YthchlfllcnlmjaaGreatDoorBytes
import Derived.Test.YthchlfllcnlmjaaGreatDoorFlush
import Derived.Test.YthchlfllcnlmjaaGreatDoorWriteI
import Derived.Test.YthchlfllcnlmjaaGreatDoorWriteS
import Derived.Test.YthchlfllcnlmjaaGreatDoorBase2
import Derived.Test.YthchlfllcnlmjaaGreatDoorRite
import Derived.Deep.RegionWith
import Derived.Deep.DeepCutAuto
namespace Go.Proofs.YthchlfllcnlmjaaGreatDoor
open Go.ChangeShapes Go.WideShapes Go.ChangeAt Go.RowKit

theorem right_small' {d : Dk} (h : Right d) : Small d := by
  obtain ⟨h1, h2, h3, h4, h5⟩ := h
  refine ⟨by omega, fun s hs => by have := h4 s hs; omega, by omega, fun p hp => by have := (h5 p hp).2.2; omega, fun p hp => ?_⟩
  have h6 := (h5 p hp).1
  have h7 := (h5 p hp).2.1
  omega
theorem write_right {d : Dk} (a : Int) (t : ByteArray) (h : (writeDo d a t).code = 0) : Right (writeDo d a t).dk := by
  by_cases h8 : 8000 < t.size
  · rw [write_size h8] at h; cases h
  · by_cases hR : Right d ∧ t.size ≤ 64
    · by_cases hA : 0 ≤ a ∧ a < d.S.length
      · by_cases hf : d.P.length = 200
        · rw [write_full hR.1 hR.2 hA hf] at h; cases h
        · rw [write_ok hR.1 hR.2 hA hf]
          obtain ⟨⟨r1, r2, r3, r4, r5⟩, r6⟩ := hR
          refine ⟨r1, r2, by simp; omega, r4, fun p hp => ?_⟩
          rcases List.mem_append.1 hp with hp | hp
          · exact r5 p hp
          · have : p = (a, t) := by simpa using hp
            subst this
            exact ⟨hA.1, hA.2, r6⟩
      · rw [write_range hR.1 hR.2 hA] at h; cases h
    · rw [write_form h8 hR] at h; cases h
theorem write_ill {d : Dk} {a : Int} {t : ByteArray} (h : ¬ (writeDo d a t).code = 0) : writeDo d a t = illDo (writeDo d a t).code := by
  by_cases h8 : 8000 < t.size
  · rw [write_size h8]; rfl
  · by_cases hR : Right d ∧ t.size ≤ 64
    · by_cases hA : 0 ≤ a ∧ a < d.S.length
      · by_cases hf : d.P.length = 200
        · rw [write_full hR.1 hR.2 hA hf]; rfl
        · rw [write_ok hR.1 hR.2 hA hf] at h; exact absurd rfl h
      · rw [write_range hR.1 hR.2 hA]; rfl
    · rw [write_form h8 hR]; rfl

/-- The first write of AreaFormat. -/
noncomputable def fmtDo (d : Dk) : Do := writeDo d 0 (headB 0 0 0)
open Classical in
/-- What AreaFormat answers. -/
noncomputable def formatAo (d : Dk) : Ao := if ¬ Right d then illAo 1 else if d.S.length < 3 then illAo 9 else if ¬ (fmtDo d).code = 0 then illAo (fmtDo d).code else ⟨(flushDo (fmtDo d).dk).dk, ⟨#[]⟩, 0, (flushDo (fmtDo d).dk).code⟩
theorem format_form {d : Dk} (h : ¬ Right d) : formatAo d = illAo 1 := by classical unfold formatAo; rw [if_pos h]
theorem format_full {d : Dk} (h : Right d) (h1 : d.S.length < 3) : formatAo d = illAo 9 := by classical unfold formatAo; rw [if_neg (fun h' => h' h), if_pos h1]
theorem format_ill {d : Dk} (h : Right d) (h1 : ¬ d.S.length < 3) (h2 : ¬ (fmtDo d).code = 0) : formatAo d = illAo (fmtDo d).code := by classical unfold formatAo; rw [if_neg (fun h' => h' h), if_neg h1, if_pos h2]
theorem format_ok {d : Dk} (h : Right d) (h1 : ¬ d.S.length < 3) (h2 : (fmtDo d).code = 0) : formatAo d = ⟨(flushDo (fmtDo d).dk).dk, ⟨#[]⟩, 0, (flushDo (fmtDo d).dk).code⟩ := by classical unfold formatAo; rw [if_neg (fun h' => h' h), if_neg h1, if_neg (fun h' => h' h2)]

theorem ow_type {α : Type} {w : World} {base : Nat} {e : TypeId} {k : Nat} {enc : α → List Value} {v : Value} {l : List α} (h : Ow w base e k enc v l) {b : Nat} {cs : Array Value} {T : TypeId} {f : Nat × Nat} (hb : w.heap[b]? = some (.cells cs T f)) (hT : T ≠ e) : ∀ g, v.ownBlock = some g → b ≠ g := by
  intro g hg he
  subst he
  rcases h.2 with ⟨rfl, _⟩ | ⟨g', cap, cur, rfl, _, hgg, _⟩
  · cases hg
  · simp [Value.ownBlock] at hg
    subst hg
    rw [hb] at hgg
    injection hgg with hgg
    injection hgg with _ ht
    exact hT ht
theorem DkOw.beside' {w : World} {base : Nat} {v : Value} {d : Dk} (h : DkOw w base v d) {b : Nat} {cs : Array Value} {T : TypeId} {f : Nat × Nat} (hb : w.heap[b]? = some (.cells cs T f)) (h1 : T ≠ 9) (h2 : T ≠ 84) (k : Nat) (u : Value) : DkOw (w.setCell ⟨b, k, none⟩ u) base v d := by
  obtain ⟨s, p, rfl, hs, hp⟩ := h
  exact ⟨s, p, rfl, hs.aside (ow_type hs hb h1) u, hp.aside (ow_type hp hb h2) u⟩

/-- A disk's answer has been laid in a box of its own. -/
def Wr (w : World) (L : List (Nat × Obj)) (D : List (Nat × Value × Dk)) (x : Do) (y : Value) (wx : World) : Prop :=
  ∃ b s p, y = .pointer (some ⟨b, 0, none⟩) ∧ w.heap.size + 1 < b ∧ Led w wx ((b, .cells #[s, p, .string x.data, .int .i64 x.code] 68 (0, 0)) :: L) ((wx.heap.size, .agg #[s, p], x.dk) :: D) [] ∧ DkOw wx (w.heap.size + 2) (.agg #[s, p]) x.dk
theorem wr_alloc {w W : World} {L : List (Nat × Obj)} {D : List (Nat × Value × Dk)} {x : Do} {s p : Value} (h : Led w W L D []) (hz : w.heap.size + 1 < W.heap.size) (ho : DkOw W (w.heap.size + 2) (.agg #[s, p]) x.dk) :
    Wr w L D x (.pointer (some ⟨W.heap.size, 0, none⟩)) (W.alloc (.cells #[s, p, .string x.data, .int .i64 x.code] 68)) :=
  ⟨_, s, p, rfl, hz, (h.alloc _).read (Nat.le_refl _) (ho.alloc _).at_, ho.alloc _⟩
theorem wr_set {w W : World} {L : List (Nat × Obj)} {D : List (Nat × Value × Dk)} {x : Do} {s p : Value} {b : Nat} {x0 x1 x2 x3 : Value} (h : Led w W L D []) (hb : W.heap[b]? = some (.cells #[x0, x1, x2, x3] 68 (0, 0))) (hz : w.heap.size + 1 < b) (hL : ∀ q ∈ L, q.1 < b) (hD : ∀ q ∈ D, q.1 ≤ b) (ho : DkOw W (w.heap.size + 2) (.agg #[s, p]) x.dk) :
    Wr w L D x (.pointer (some ⟨b, 0, none⟩)) ((((W.setCell ⟨b, 0, none⟩ s).setCell ⟨b, 1, none⟩ p).setCell ⟨b, 2, none⟩ (.string x.data)).setCell ⟨b, 3, none⟩ (.int .i64 x.code)) := by
  have e0 := block_set hb 0 s
  have e1 := block_set e0 1 p
  have e2 := block_set e1 2 (.string x.data)
  have e3 := block_set e2 3 (.int .i64 x.code)
  have k : Within b (b + 1) W ((((W.setCell ⟨b, 0, none⟩ s).setCell ⟨b, 1, none⟩ p).setCell ⟨b, 2, none⟩ (.string x.data)).setCell ⟨b, 3, none⟩ (.int .i64 x.code)) :=
    Within.of_grown (grown_trans (grown_trans (grown_trans (grown_set W b 0 s) (grown_set _ b 1 p)) (grown_set _ b 2 _)) (grown_set _ b 3 _)) (fun g hg => by cases hg; omega)
  have h1 := h.within k (by omega) (fun q hq => .inl (hL q hq)) hD (fun q hq => by cases hq)
  have h2 := ((((ho.beside' hb (by decide) (by decide) 0 s).beside' e0 (by decide) (by decide) 1 p).beside' e1 (by decide) (by decide) 2 (.string x.data)).beside' e2 (by decide) (by decide) 3 (.int .i64 x.code))
  exact ⟨b, s, p, rfl, hz, (h1.know e3).read (Nat.le_refl _) h2.at_, h2⟩

end Go.Proofs.YthchlfllcnlmjaaGreatDoor
