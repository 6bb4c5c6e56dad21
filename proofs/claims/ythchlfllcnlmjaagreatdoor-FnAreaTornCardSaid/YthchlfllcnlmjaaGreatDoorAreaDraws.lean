/-
  The draws of areas.
-/
import Derived.Test.YthchlfllcnlmjaaGreatDoorBase1
import Derived.Test.YthchlfllcnlmjaaGreatDoorDrawAt
import Derived.Test.YthchlfllcnlmjaaGreatDoorPutM
import Derived.Test.YthchlfllcnlmjaaGreatDoorFormatS
import Derived.Test.YthchlfllcnlmjaaGreatDoorDr
import Derived.Test.YthchlfllcnlmjaaGreatDoorMark
import Derived.Test.YthchlfllcnlmjaaGreatDoorDrawD
import Derived.Test.YthchlfllcnlmjaaGreatDoorPutS
import Derived.Test.YthchlfllcnlmjaaGreatDoorCrash
import Derived.Test.YthchlfllcnlmjaaGreatDoorRoomS
/-! The calm law over any relation in place of Below: for regions that draw. -/
namespace Go.Proofs.YthchlfllcnlmjaaGreatDoor.CalmR
open Go.RowKit

section calm
variable {R : World → World → Prop} {P : Program} {ops : Array Oper} {md : Region.Mode} {C : World → Prop} {N : List (Nat × (Value → Prop) × (Value → World → Prop))}

/-- What is known of the operations that have come up: one fact more. -/
def upd (F : Nat → World → Prop) (i : Nat) (g : World → Prop) : Nat → World → Prop := fun k w => F k w ∧ (k = i → g w)
/-- What is known of those that an operation waits for. -/
def Deps (md : Region.Mode) (o : Oper) (F : Nat → World → Prop) (w : World) : Prop := ∀ e ∈ o.after, Region.binds md e = true → F e.on w
/-- It yields v and leaves the world as it is. -/
def Plain (w : World) (v : Value) : Result Next → Prop
  | .ok (.value u) w' => u = v ∧ w' = w
  | .ok .skip w' => undef = v ∧ w' = w
  | _ => False
/-- It yields some value that is told of, and all that stood is as it was. -/
def Grows (R : World → World → Prop) (P : Program) (V : Value → Prop) (g : Value → World → Prop) (w : World) : Result Next → Prop
  | .ok (.value u) w' => R w w' ∧ V u ∧ g u w'
  | .ok (.enter f args) w' => w' = w ∧ Calls P f args w fun e w'' => ∃ u, e = .returned u ∧ R w w'' ∧ V u ∧ g u w''
  | _ => False
theorem Plain.one {w : World} {v v' : Value} {r : Result Next} (h : Plain w v r) (k : Plain w v' r) : v = v' := by
  unfold Plain at h k
  split at h
  · exact h.1.symm.trans k.1
  · exact h.1.symm.trans k.1
  · cases h
def Gives (R : World → World → Prop) (P : Program) (ops : Array Oper) (md : Region.Mode) (C : World → Prop) (N : List (Nat × (Value → Prop) × (Value → World → Prop))) (i : Nat) (o : Oper) (a : Act) (F : Nat → World → Prop) (V : Value → Prop) (g : Value → World → Prop) : Prop :=
  (Region.wanted o (yielded ops a.tmps) = false ∧ V = (fun v => v = undef) ∧ g = fun _ _ => True) ∨
  (Region.wanted o (yielded ops a.tmps) = true ∧ N.lookup i = none ∧ g = (fun _ _ => True) ∧ ∀ w, C w → Deps md o F w → ∃ v, V v ∧ Plain w v ((execOp a.eval o).run P w)) ∨
  (Region.wanted o (yielded ops a.tmps) = true ∧ N.lookup i = some (V, g) ∧ ∀ w, C w → Deps md o F w → Grows R P V g w ((execOp a.eval o).run P w))
def Live (C : World → Prop) (F : Nat → World → Prop) : Prop := ∃ w, C w ∧ ∀ k, F k w
def Mono (R : World → World → Prop) (C : World → Prop) : Prop := ∀ w w', R w w' → C w → C w'
def MonoF (R : World → World → Prop) (F : Nat → World → Prop) : Prop := ∀ k, Mono R (F k)
def MonoN (R : World → World → Prop) (N : List (Nat × (Value → Prop) × (Value → World → Prop))) : Prop := ∀ i V g, N.lookup i = some (V, g) → ∀ v, Mono R (g v)

theorem MonoF.upd {F : Nat → World → Prop} (h : MonoF R F) {i : Nat} {g : World → Prop} (hg : Mono R g) : MonoF R (upd F i g) :=
  fun k w w' hb hk => ⟨h k w w' hb hk.1, fun e => hg w w' hb (hk.2 e)⟩
theorem Gives.mono {i : Nat} {o : Oper} {a : Act} {F : Nat → World → Prop} {V : Value → Prop} {g : Value → World → Prop} (h : Gives R P ops md C N i o a F V g) (hN : MonoN R N) (v : Value) : Mono R (g v) := by
  rcases h with ⟨_, _, rfl⟩ | ⟨_, _, rfl, _⟩ | ⟨_, h, _⟩
  · exact fun _ _ _ h => h
  · exact fun _ _ _ h => h
  · exact hN _ _ _ h v
theorem Gives.same {i : Nat} {o : Oper} {a a' : Act} {F F' : Nat → World → Prop} {V : Value → Prop} {g : Value → World → Prop} (h : Gives R P ops md C N i o a F V g)
    (he : execOp a'.eval o = execOp a.eval o) (hw : Region.wanted o (yielded ops a'.tmps) = Region.wanted o (yielded ops a.tmps)) (hd : ∀ w, Deps md o F' w → Deps md o F w) : Gives R P ops md C N i o a' F' V g := by
  unfold Gives at *
  rw [he, hw]
  rcases h with h | ⟨h1, h2, h3, h4⟩ | ⟨h1, h2, h4⟩
  · exact .inl h
  · exact .inr (.inl ⟨h1, h2, h3, fun w c d => h4 w c (hd w d)⟩)
  · exact .inr (.inr ⟨h1, h2, fun w c d => h4 w c (hd w d)⟩)
/-- From a world that is there it comes to one. -/
theorem Gives.live {i : Nat} {o : Oper} {a : Act} {F : Nat → World → Prop} {V : Value → Prop} {g : Value → World → Prop} (h : Gives R P ops md C N i o a F V g) (hC : Mono R C) (hF : MonoF R F) (hl : Live C F) : ∃ u, V u ∧ Live C (upd F i (g u)) := by
  obtain ⟨w, c, f⟩ := hl
  rcases h with ⟨_, rfl, rfl⟩ | ⟨_, _, rfl, h⟩ | ⟨_, _, h⟩
  · exact ⟨undef, rfl, w, c, fun k => ⟨f k, fun _ => trivial⟩⟩
  · obtain ⟨v, hv, _⟩ := h w c (fun e _ _ => f _)
    exact ⟨v, hv, w, c, fun k => ⟨f k, fun _ => trivial⟩⟩
  · have h1 := h w c (fun e _ _ => f _)
    unfold Grows at h1
    split at h1
    · obtain ⟨hb, hv, hg⟩ := h1
      exact ⟨_, hv, _, hC _ _ hb c, fun k => ⟨hF k _ _ hb (f k), fun _ => hg⟩⟩
    · obtain ⟨_, hc⟩ := h1
      obtain ⟨e, w', fr, ⟨u, _, hb, hv, hg⟩, _⟩ := hc []
      exact ⟨u, hv, w', hC _ _ hb c, fun k => ⟨hF k _ _ hb (f k), fun _ => hg⟩⟩
    · cases h1

/-- Operation number 'i' comes up. -/
def cOp (R : World → World → Prop) (P : Program) (ops : Array Oper) (md : Region.Mode) (C : World → Prop) (N : List (Nat × (Value → Prop) × (Value → World → Prop))) (i : Nat) (K : Act → (Nat → World → Prop) → Prop) (a : Act) (F : Nat → World → Prop) : Prop :=
  ∃ o, ops[i]? = some o ∧ ∃ V g, Gives R P ops md C N i o a F V g ∧ ∀ v, V v → K (a.put o.dst v) (upd F i (g v))
theorem cOp_mono {i : Nat} {K K' : Act → (Nat → World → Prop) → Prop} {a : Act} {F : Nat → World → Prop} (h : ∀ a F, K a F → K' a F) (hh : cOp R P ops md C N i K a F) : cOp R P ops md C N i K' a F :=
  let ⟨o, ho, V, g, h1, h2⟩ := hh
  ⟨o, ho, V, g, h1, fun v hv => h _ _ (h2 v hv)⟩

theorem upd_comm (F : Nat → World → Prop) (i j : Nat) (g k : World → Prop) : upd (upd F i g) j k = upd (upd F j k) i g := by
  funext n w
  unfold upd
  exact propext ⟨fun ⟨⟨a, b⟩, c⟩ => ⟨⟨a, c⟩, b⟩, fun ⟨⟨a, b⟩, c⟩ => ⟨⟨a, c⟩, b⟩⟩
theorem deps_upd {o : Oper} {F : Nat → World → Prop} {i : Nat} {g : World → Prop} (hn : ∀ e ∈ o.after, Region.binds md e = true → e.on ≠ i) (w : World) : Deps md o (upd F i g) w ↔ Deps md o F w :=
  ⟨fun h e he hb => (h e he hb).1, fun h e he hb => ⟨h e he hb, fun hi => absurd hi (hn e he hb)⟩⟩
theorem live_up {F : Nat → World → Prop} {i j : Nat} {g k : World → Prop} (h : Live C (upd (upd F j k) i g)) : Live C (upd F i g) :=
  let ⟨w, c, f⟩ := h
  ⟨w, c, fun n => ⟨(f n).1.1, (f n).2⟩⟩

/-- Two operations that are apart: the one ahead of the other. -/
theorem cOp_swap {i j : Nat} {oi oj : Oper} {a : Act} {F : Nat → World → Prop} {V : Value → Prop} {g : Value → World → Prop} {K : Act → (Nat → World → Prop) → Prop}
    (hj : ops[j]? = some oj) (hap : oi.apart ops oj = true) (hsi : ∀ cs b, oi.op ≠ .select cs b) (hsj : ∀ cs b, oj.op ≠ .select cs b)
    (hij : ∀ e ∈ oj.after, Region.binds md e = true → e.on ≠ i) (hji : ∀ e ∈ oi.after, Region.binds md e = true → e.on ≠ j)
    (hC : Mono R C) (hF : MonoF R F) (hl : Live C F) (hG : Gives R P ops md C N i oi a F V g)
    (H : ∀ u, V u → Live C (upd F i (g u)) → cOp R P ops md C N j K (a.put oi.dst u) (upd F i (g u))) :
    cOp R P ops md C N j (fun a' F' => Gives R P ops md C N i oi a' F' V g ∧ ∀ u, V u → Live C (upd F' i (g u)) → K (a'.put oi.dst u) (upd F' i (g u))) a F := by
  obtain ⟨h1, h2, h3⟩ := Oper.apart_spec hap
  have keep : ∀ v (k : World → Prop), Gives R P ops md C N i oi (a.put oj.dst v) (upd F j k) V g := fun v k =>
    hG.same (execOp_put oi hsi a oj.dst v h3) (wanted_put oi a oj.dst v h3) (fun w => (deps_upd hji w).1)
  have back : ∀ u {V' g'}, Gives R P ops md C N j oj (a.put oi.dst u) (upd F i (g u)) V' g' → Gives R P ops md C N j oj a F V' g' := fun u V' g' h =>
    h.same (execOp_put oj hsj a oi.dst u h1).symm (wanted_put oj a oi.dst u h1).symm (fun w => (deps_upd hij w).2)
  have move : ∀ u v (k : World → Prop), K ((a.put oi.dst u).put oj.dst v) (upd (upd F i (g u)) j k) → K ((a.put oj.dst v).put oi.dst u) (upd (upd F j k) i (g u)) := fun u v k h => by
    rw [← Act.put_comm a u v h2, ← upd_comm]; exact h
  have each : ∀ u, V u → Live C (upd F i (g u)) → ∃ V' g', Gives R P ops md C N j oj a F V' g' ∧ ∀ v, V' v → K ((a.put oj.dst v).put oi.dst u) (upd (upd F j (g' v)) i (g u)) := fun u hu hlu => by
    obtain ⟨o, ho, V', g', hg', hk⟩ := H u hu hlu
    obtain rfl : oj = o := Option.some.inj (hj.symm.trans ho)
    exact ⟨V', g', back u hg', fun v hv => move u v _ (hk v hv)⟩
  obtain ⟨u0, hu0, hl0⟩ := hG.live hC hF hl
  obtain ⟨V0, g0, hg0, hk0⟩ := each u0 hu0 hl0
  refine ⟨oj, hj, ?_⟩
  rcases hg0 with ⟨hw, rfl, rfl⟩ | ⟨hw, hn, rfl, hp⟩ | ⟨hw, hn, hp⟩
  · refine ⟨_, _, .inl ⟨hw, rfl, rfl⟩, fun v hv => ⟨keep _ _, fun u hu hlu => ?_⟩⟩
    obtain ⟨V', g', hg', hk'⟩ := each u hu (live_up hlu)
    rcases hg' with ⟨_, rfl, rfl⟩ | ⟨hw', _⟩ | ⟨hw', _⟩
    · exact hk' v hv
    · rw [hw] at hw'; cases hw'
    · rw [hw] at hw'; cases hw'
  · refine ⟨fun v => ∀ u, V u → Live C (upd F i (g u)) → K ((a.put oj.dst v).put oi.dst u) (upd (upd F j (fun _ => True)) i (g u)), fun _ _ => True, .inr (.inl ⟨hw, hn, rfl, fun w c d => ?_⟩), fun v hv => ⟨keep _ _, fun u hu hlu => hv u hu (live_up hlu)⟩⟩
    obtain ⟨v, _, hpv⟩ := hp w c d
    refine ⟨v, fun u hu hlu => ?_, hpv⟩
    obtain ⟨V', g', hg', hk'⟩ := each u hu hlu
    rcases hg' with ⟨hw', _⟩ | ⟨_, _, rfl, hp'⟩ | ⟨_, hn', _⟩
    · rw [hw] at hw'; cases hw'
    · obtain ⟨v', hv', hpv'⟩ := hp' w c d
      rw [hpv.one hpv']
      exact hk' v' hv'
    · rw [hn] at hn'; cases hn'
  · refine ⟨V0, g0, .inr (.inr ⟨hw, hn, hp⟩), fun v hv => ⟨keep _ _, fun u hu hlu => ?_⟩⟩
    obtain ⟨V', g', hg', hk'⟩ := each u hu (live_up hlu)
    rcases hg' with ⟨hw', _⟩ | ⟨_, hn', _⟩ | ⟨_, hn', _⟩
    · rw [hw] at hw'; cases hw'
    · rw [hn] at hn'; cases hn'
    · rw [hn] at hn'
      simp only [Option.some.injEq, Prod.mk.injEq] at hn'
      obtain ⟨rfl, rfl⟩ := hn'
      exact hk' v hv

/-- Whatever order is picked from here on, till the first n have come up. -/
def wpAnyC (R : World → World → Prop) (P : Program) (ops : Array Oper) (md : Region.Mode) (C : World → Prop) (N : List (Nat × (Value → Prop) × (Value → World → Prop))) (n : Nat) (L : Array Bool → Act → (Nat → World → Prop) → Prop) : Nat → Array Bool → Act → (Nat → World → Prop) → Prop
  | 0, listed, a, F => Live C F → L listed a F
  | f + 1, listed, a, F => Live C F → Region.ready md ops listed ≠ [] ∧ ∀ i ∈ Region.ready md ops listed, i < n ∧ cOp R P ops md C N i (wpAnyC R P ops md C N n L f (listed.setIfInBounds i true)) a F

theorem wpAnyC_first {n i : Nat} {oi : Oper} {V : Value → Prop} {g : Value → World → Prop} {L : Array Bool → Act → (Nat → World → Prop) → Prop} (hi : ops[i]? = some oi) (hsel : ∀ (j : Nat) (o : Oper) cs b, ops[j]? = some o → o.op ≠ .select cs b)
    (hwait : ∀ listed, HeadInv md ops n listed → listed.getD i true = false → ∀ t ∈ Region.ready md ops listed, t < n)
    (hC : Mono R C) (hN : MonoN R N) (hin : i < n) (hdone : ∀ listed a F, L listed a F → ∀ j ∈ Region.ready md ops listed, n ≤ j) :
    ∀ (f : Nat) (listed : Array Bool) (a : Act) (F : Nat → World → Prop), HeadInv md ops n listed → MonoF R F →
      (∀ j oj, ops[j]? = some oj → j ≠ i → listed.getD j true = false → (∀ e ∈ oj.after, Region.binds md e = true → e.on ≠ i) → oi.apart ops oj = true) →
      i ∈ Region.ready md ops listed → Gives R P ops md C N i oi a F V g →
      (∀ u, V u → wpAnyC R P ops md C N n L f (listed.setIfInBounds i true) (a.put oi.dst u) (upd F i (g u))) → wpAnyC R P ops md C N n L (f + 1) listed a F := by
  intro f
  induction f with
  | zero =>
    intro listed a F inv hF _ hr hG H hl
    have hun := (mem_ready.1 hr).1
    refine ⟨fun h => (by rw [h] at hr; cases hr), fun j hj => ?_⟩
    have hjn : j < n := hwait listed inv hun j hj
    refine ⟨hjn, ?_⟩
    by_cases hji : j = i
    · subst hji; exact ⟨oi, hi, V, g, hG, H⟩
    · obtain ⟨u, hu, hlu⟩ := hG.live hC hF hl
      have := hdone _ _ _ (H u hu hlu) j (ready_mono hj hji)
      omega
  | succ f ih =>
    intro listed a F inv hF hfree hr hG H hl
    have hun := (mem_ready.1 hr).1
    refine ⟨fun h => (by rw [h] at hr; cases hr), fun j hj => ?_⟩
    have hjn : j < n := hwait listed inv hun j hj
    refine ⟨hjn, ?_⟩
    by_cases hji : j = i
    · subst hji; exact ⟨oi, hi, V, g, hG, H⟩
    · obtain ⟨hjun, oj, hoj, hall⟩ := mem_ready.1 hj
      obtain ⟨_, oi', hoi', halli⟩ := mem_ready.1 hr
      obtain rfl : oi = oi' := Option.some.inj (hi.symm.trans hoi')
      have hnot : ∀ e ∈ oj.after, Region.binds md e = true → e.on ≠ i := fun e he hb heq => by
        have h1 := hall e he hb
        rw [heq, getD_both hun] at h1
        cases h1
      have hnot' : ∀ e ∈ oi.after, Region.binds md e = true → e.on ≠ j := fun e he hb heq => by
        have h1 := halli e he hb
        rw [heq, getD_both hjun] at h1
        cases h1
      have h2 := cOp_swap hoj (hfree j oj hoj hji hjun hnot) (fun cs b => hsel i oi cs b hi) (fun cs b => hsel j oj cs b hoj) hnot hnot' hC hF hl hG
        (fun u hu hlu => ((H u hu hlu).2 j (ready_mono hj hji)).2)
      have hfree' : ∀ k ok, ops[k]? = some ok → k ≠ i → (listed.setIfInBounds j true).getD k true = false →
          (∀ e ∈ ok.after, Region.binds md e = true → e.on ≠ i) → oi.apart ops ok = true := fun k ok hk hki hun hno => by
        refine hfree k ok hk hki ?_ hno
        by_cases hjk : j = k
        · subst hjk; exact hjun
        · rw [getD_set_ne true hjk] at hun; exact hun
      obtain ⟨o', ho', V', g', hg', hk'⟩ := h2
      refine ⟨o', ho', V', g', hg', fun v hv => ?_⟩
      obtain ⟨h3, h4⟩ := hk' v hv
      refine ih (listed.setIfInBounds j true) _ _ (inv.set hj hjn) (hF.upd (hg'.mono hN v)) hfree' (ready_mono hr (Ne.symm hji)) h3 (fun u hu => ?_)
      rw [Array.setIfInBounds_comm _ _ hji]
      cases f with
      | zero => exact fun hlu => h4 u hu hlu hlu
      | succ f => exact fun hlu => h4 u hu hlu hlu

/-- It is a wpAny. -/
theorem wpAny_of_calm {n r : Nat} {L : Array Bool → Act → (Nat → World → Prop) → Prop} {Q : Exit → Act → World → Prop} (hC : Mono R C) (hN : MonoN R N)
    (hL : ∀ listed a F w, L listed a F → C w → (∀ k, F k w) → wpAny P md ops Q r listed a w) :
    ∀ (f : Nat) (listed : Array Bool) (a : Act) (F : Nat → World → Prop) (w : World), MonoF R F → C w → (∀ k, F k w) → wpAnyC R P ops md C N n L f listed a F → wpAny P md ops Q (f + r) listed a w
  | 0, listed, a, F, w, _, c, k, h => by rw [Nat.zero_add]; exact hL _ _ _ _ (h ⟨w, c, k⟩) c k
  | f + 1, listed, a, F, w, hF, c, k, h => by
    rw [show f + 1 + r = (f + r) + 1 by omega]
    have h := h ⟨w, c, k⟩
    refine ⟨fun h0 => absurd h0 h.1, fun i hi => ?_⟩
    obtain ⟨o, ho, V, g, hG, hK⟩ := (h.2 i hi).2
    have hm := hG.mono hN
    unfold wpOp
    simp only [ho]
    rcases hG with ⟨hw, rfl, rfl⟩ | ⟨hw, _, rfl, hp⟩ | ⟨hw, _, hp⟩
    · rw [if_neg (by rw [hw]; exact Bool.false_ne_true)]
      exact wpAny_of_calm hC hN hL f _ _ _ w (hF.upd (hm undef)) c (fun k' => ⟨k k', fun _ => trivial⟩) (hK undef rfl)
    · rw [if_pos hw]
      obtain ⟨v, hv, hpv⟩ := hp w c (fun e _ _ => k _)
      refine .inl ?_
      unfold Oper.wp
      unfold Plain at hpv
      split at hpv
      · rename_i heq
        obtain ⟨rfl, rfl⟩ := hpv
        rw [heq]
        exact wpAny_of_calm hC hN hL f _ _ (upd F i fun _ => True) _ (hF.upd (hm undef)) c (fun k' => ⟨k k', fun _ => trivial⟩) (hK _ hv)
      · rename_i heq
        obtain ⟨rfl, rfl⟩ := hpv
        rw [heq]
        exact wpAny_of_calm hC hN hL f _ _ (upd F i fun _ => True) _ (hF.upd (hm undef)) c (fun k' => ⟨k k', fun _ => trivial⟩) (hK _ hv)
      · cases hpv
    · rw [if_pos hw]
      have hpv := hp w c (fun e _ _ => k _)
      refine .inl ?_
      unfold Oper.wp
      unfold Grows at hpv
      split at hpv
      · rename_i heq
        obtain ⟨hb, hv, hg⟩ := hpv
        rw [heq]
        exact wpAny_of_calm hC hN hL f _ _ _ _ (hF.upd (hm _)) (hC _ _ hb c) (fun k' => ⟨hF k' _ _ hb (k k'), fun _ => hg⟩) (hK _ hv)
      · rename_i heq
        obtain ⟨rfl, hc⟩ := hpv
        rw [heq]
        refine hc.mono fun e w'' he => ?_
        obtain ⟨u, rfl, hb, hv, hg⟩ := he
        exact wpAny_of_calm hC hN hL f _ _ _ _ (hF.upd (hm _)) (hC _ _ hb c) (fun k' => ⟨hF k' _ _ hb (k k'), fun _ => hg⟩) (hK _ hv)
      · cases hpv

/-- THE LEXICAL WALK. -/
def wpCalm (R : World → World → Prop) (P : Program) (ops : Array Oper) (md : Region.Mode) (C : World → Prop) (N : List (Nat × (Value → Prop) × (Value → World → Prop))) (Q : Act → (Nat → World → Prop) → Prop) : List Oper → Nat → Act → (Nat → World → Prop) → Prop
  | [], _, a, F => Q a F
  | o :: l, i, a, F => (∃ V g, Gives R P ops md C N i o a F V g ∧ ∀ v, V v → wpCalm R P ops md C N Q l (i + 1) (a.put o.dst v) (upd F i (g v)))

theorem wpAnyC_lex {n r : Nat} {Q : Act → (Nat → World → Prop) → Prop} (hsel : Region.noSelect ops = true)
    (hwait : ∀ i < n, ∀ listed, HeadInv md ops n listed → listed.getD i true = false → ∀ t ∈ Region.ready md ops listed, t < n) (hC : Mono R C) (hN : MonoN R N) :
    ∀ (l : List Oper) (k : Nat) (listed : Array Bool) (a : Act) (F : Nat → World → Prop), (∀ j, j < l.length → l[j]? = ops[k + j]?) → k + l.length = n → HeadInv md ops n listed → MonoF R F →
    Region.lexHead md ops r l.length k listed = true → wpCalm R P ops md C N Q l k a F →
    wpAnyC R P ops md C N n (fun listed' a' F' => Region.seqB md ops r n listed' = true ∧ Q a' F') l.length listed a F
  | [], k, listed, a, F, _, hk, _, _, hB, h => by
    have : k = n := by simpa using hk
    subst this
    exact fun _ => ⟨by simpa [Region.lexHead] using hB, h⟩
  | o :: l, k, listed, a, F, hl, hk, inv, hF, hB, h => by
    have h0 : ops[k]? = some o := by simpa using (hl 0 (by simp)).symm
    simp only [List.length_cons, Region.lexHead, Bool.and_eq_true] at hB
    obtain ⟨⟨hr, hf⟩, hB'⟩ := hB
    have hkn : k < n := by simp only [List.length_cons] at hk; omega
    have hr' : k ∈ Region.ready md ops listed := by simpa using hr
    obtain ⟨V, g, hG, hK⟩ := h
    refine wpAnyC_first h0 (Region.noSelect_spec hsel) (hwait k hkn) hC hN hkn (fun listed' a' F' hL => seqB_ready hL.1) l.length listed a F inv hF (Region.free_spec h0 hf) hr' hG (fun u hu => ?_)
    exact wpAnyC_lex hsel hwait hC hN l (k + 1) _ _ _ (fun j hj => by have := hl (j + 1) (by simp; omega); simpa [Nat.add_assoc, Nat.add_comm 1 j] using this) (by simp only [List.length_cons] at hk; omega) (inv.set hr' hkn) (hF.upd (hG.mono hN u)) hB' (hK u hu)

def noF : Nat → World → Prop := fun _ _ => True
theorem noF_mono : MonoF R noF := fun _ _ _ _ _ => trivial

/-- ONE WALK OF THE LEXICAL ORDER, AND BEHIND IT THE TAIL. -/
theorem wp_region_calm_tail {id : Nat} {Q : Exit → Act → World → Prop} {a : Act} {w : World} {l : List Oper} (C : World → Prop) (N : List (Nat × (Value → Prop) × (Value → World → Prop))) (n : Nat) (hm : P.follows .mixedOrders = true) (hB : Region.lexTailB .any l.toArray n = true)
    (hC : Mono R C) (hN : MonoN R N) (h0 : C w.drew)
    (h : wpCalm R P l.toArray .any C N (fun a' F => ∀ w', C w' → (∀ k, F k w') → wpList P l.toArray Q (l.drop n) a' w') (l.take n) 0 a noF) : (Code.region id l.toArray true).wp P Q a w := by
  simp only [Region.lexTailB, Bool.and_eq_true, decide_eq_true_eq] at hB
  obtain ⟨⟨⟨⟨hsel, hn⟩, hs⟩, hc⟩, hlex⟩ := hB
  have hn' : n < l.length := by simpa using hn
  have htl : (l.take n).length = n := by simp; omega
  have hdl : (l.drop n).length = l.toArray.size - n := by simp
  have inv0 : HeadInv .any l.toArray n (Array.replicate l.toArray.size false) :=
    ⟨by simp, fun j oj _ hl => (by rw [getD_replicate_false] at hl; cases hl), fun t _ ht => getD_in (by simpa using ht) (getD_replicate_false _ _)⟩
  have hwait : ∀ i < n, ∀ listed, HeadInv .any l.toArray n listed → listed.getD i true = false → ∀ t ∈ Region.ready .any l.toArray listed, t < n := fun i hi listed inv hun t ht => by
    rcases Nat.lt_or_ge t n with h | h
    · exact h
    · exact absurd ht (tail_waits hs hc hn inv _ i rfl hi hun t h)
  have H := wpAnyC_lex (P := P) (C := C) (N := N) (r := l.toArray.size - n) hsel hwait hC hN (l.take n) 0 _ a noF (fun j hj => by
    have hj' : j < n := by rw [htl] at hj; exact hj
    simp [hj']) (by simpa using htl) inv0 noF_mono (by rw [htl]; exact hlex) h
  refine wp_region_any hm ?_
  have := wpAny_of_calm (Q := Q) (r := l.toArray.size - n) hC hN (fun listed a' F w' hL c k => by
    have := wpAny_of_seq (md := .any) (Q' := Q) (l.drop n) n listed a' w' (fun j => by simp [List.getElem?_drop]) (by rw [hdl]; exact hL.1) (hL.2 w' c k)
    rwa [hdl] at this) _ _ _ _ _ noF_mono h0 (fun _ => trivial) H
  rw [htl, show n + (l.toArray.size - n) = l.toArray.size by omega] at this
  exact this

def lexHead0 (md : Region.Mode) (ops : Array Oper) : Bool := Region.noSelect ops && Region.lexHead md ops 0 ops.size 0 (Array.replicate ops.size false)
/-- ONE WALK OF THE LEXICAL ORDER, of the whole region. -/
theorem wp_region_calm {id : Nat} {Q : Exit → Act → World → Prop} {a : Act} {w : World} {l : List Oper} (C : World → Prop) (N : List (Nat × (Value → Prop) × (Value → World → Prop))) (hm : P.follows .mixedOrders = true) (hB : lexHead0 .any l.toArray = true)
    (hC : Mono R C) (hN : MonoN R N) (h0 : C w.drew)
    (h : wpCalm R P l.toArray .any C N (fun a' F => ∀ w', C w' → (∀ k, F k w') → Q .normal a' w') l 0 a noF) : (Code.region id l.toArray true).wp P Q a w := by
  simp only [lexHead0, Bool.and_eq_true] at hB
  obtain ⟨hsel, hlex⟩ := hB
  have inv0 : HeadInv .any l.toArray l.length (Array.replicate l.toArray.size false) :=
    ⟨by simp, fun j oj _ hl => (by rw [getD_replicate_false] at hl; cases hl), fun t ht ht' => absurd ht' (by simp; omega)⟩
  have hwait : ∀ i < l.length, ∀ listed, HeadInv .any l.toArray l.length listed → listed.getD i true = false → ∀ t ∈ Region.ready .any l.toArray listed, t < l.length := fun i _ listed _ _ t ht => by
    obtain ⟨_, o, ho, _⟩ := mem_ready.1 ht
    have := (Array.getElem?_eq_some_iff.1 ho).1
    simpa using this
  have H := wpAnyC_lex (P := P) (C := C) (N := N) (r := 0) hsel hwait hC hN l 0 _ a noF (fun j _ => by simp) (by simp) inv0 noF_mono (by simpa using hlex) h
  refine wp_region_any hm ?_
  have := wpAny_of_calm (Q := Q) (r := 0) hC hN (fun listed a' F w' hL c k => ⟨by simpa [Region.seqB] using hL.1, hL.2 w' c k⟩) _ _ _ _ _ noF_mono h0 (fun _ => trivial) H
  simpa using this

/-! ### The steps of a walk -/
theorem calm_nil {Q : Act → (Nat → World → Prop) → Prop} {i : Nat} {a : Act} {F : Nat → World → Prop} (h : Q a F) : wpCalm R P ops md C N Q [] i a F := h
theorem calm_end {Q : Act → World → Prop} {i : Nat} {a : Act} {F : Nat → World → Prop} (h : ∀ w', C w' → (∀ k, F k w') → Q a w') : wpCalm R P ops md C N (fun a' F => ∀ w', C w' → (∀ k, F k w') → Q a' w') [] i a F := h
theorem calm_plain {Q : Act → (Nat → World → Prop) → Prop} {o : Oper} {l : List Oper} {i : Nat} {a : Act} {F : Nat → World → Prop} (hw : Region.wanted o (yielded ops a.tmps) = true) (hn : N.lookup i = none)
    (h : ∃ v, (∀ w, C w → Deps md o F w → (execOp a.eval o).run P w = .ok (.value v) w) ∧ wpCalm R P ops md C N Q l (i + 1) (a.put o.dst v) (upd F i (fun _ => True))) : wpCalm R P ops md C N Q (o :: l) i a F := by
  obtain ⟨v, h, hk⟩ := h
  exact ⟨fun u => u = v, fun _ _ => True, .inr (.inl ⟨hw, hn, rfl, fun w c d => ⟨v, rfl, by rw [h w c d]; exact ⟨rfl, rfl⟩⟩⟩), fun u hu => by subst hu; exact hk⟩
theorem calm_skip {Q : Act → (Nat → World → Prop) → Prop} {o : Oper} {l : List Oper} {i : Nat} {a : Act} {F : Nat → World → Prop} (hw : Region.wanted o (yielded ops a.tmps) = false)
    (hk : wpCalm R P ops md C N Q l (i + 1) (a.put o.dst undef) (upd F i (fun _ => True))) : wpCalm R P ops md C N Q (o :: l) i a F :=
  ⟨_, _, .inl ⟨hw, rfl, rfl⟩, fun u hu => by subst hu; exact hk⟩
/-- A call. -/
theorem calm_call {Q : Act → (Nat → World → Prop) → Prop} {o : Oper} {l : List Oper} {i : Nat} {a : Act} {F : Nat → World → Prop} (V : Value → Prop) (g : Value → World → Prop) (hw : Region.wanted o (yielded ops a.tmps) = true) (hn : N.lookup i = some (V, g))
    (h : ∃ f args, (∀ w, C w → Deps md o F w → (execOp a.eval o).run P w = .ok (.enter f args) w) ∧ ∀ w, C w → Deps md o F w → Calls P f args w fun e w'' => ∃ u, e = .returned u ∧ R w w'' ∧ V u ∧ g u w'')
    (hk : ∀ v, V v → wpCalm R P ops md C N Q l (i + 1) (a.put o.dst v) (upd F i (g v))) : wpCalm R P ops md C N Q (o :: l) i a F := by
  obtain ⟨f, args, h1, h2⟩ := h
  exact ⟨V, g, .inr (.inr ⟨hw, hn, fun w c d => by rw [h1 w c d]; exact ⟨rfl, h2 w c d⟩⟩), hk⟩
/-- An operation that makes a block. -/
theorem calm_make {Q : Act → (Nat → World → Prop) → Prop} {o : Oper} {l : List Oper} {i : Nat} {a : Act} {F : Nat → World → Prop} (V : Value → Prop) (g : Value → World → Prop) (hw : Region.wanted o (yielded ops a.tmps) = true) (hn : N.lookup i = some (V, g))
    (h : ∀ w, C w → Deps md o F w → ∃ u w', (execOp a.eval o).run P w = .ok (.value u) w' ∧ R w w' ∧ V u ∧ g u w')
    (hk : ∀ v, V v → wpCalm R P ops md C N Q l (i + 1) (a.put o.dst v) (upd F i (g v))) : wpCalm R P ops md C N Q (o :: l) i a F :=
  ⟨V, g, .inr (.inr ⟨hw, hn, fun w c d => by
    obtain ⟨u, w', e, h1⟩ := h w c d
    rw [e]; exact h1⟩), hk⟩
/-- What an operation waits for. -/
theorem Deps.get {o : Oper} {F : Nat → World → Prop} {w : World} (h : Deps md o F w) (i : Nat) (hi : (o.after.any fun e => Region.binds md e && e.on == i) = true) : F i w := by
  obtain ⟨e, he, hb⟩ := Array.any_eq_true'.1 hi
  simp only [Bool.and_eq_true, beq_iff_eq] at hb
  have := h e he hb.1
  rwa [hb.2] at this
theorem upd_at {F : Nat → World → Prop} {i : Nat} {g : World → Prop} {w : World} (h : upd F i g i w) : g w := h.2 rfl
theorem upd_on {F : Nat → World → Prop} {i k : Nat} {g : World → Prop} {w : World} (h : upd F i g k w) : F k w := h.1
theorem monoN_of (h : ∀ p ∈ N, ∀ v, Mono R (p.2.2 v)) : MonoN R N := fun i V g hl v => by
  have : (i, V, g) ∈ N := by
    clear h
    induction N with
    | nil => cases hl
    | cons x xs ih =>
      obtain ⟨k, y⟩ := x
      rw [List.lookup_cons] at hl
      split at hl
      · rename_i he
        have := beq_iff_eq.1 he
        subst this
        cases hl
        exact List.mem_cons_self
      · exact List.mem_cons_of_mem _ (ih hl)
  exact h _ this v
/-- What is told of values alone. -/
def told (l : List (Nat × (Value → Prop))) : List (Nat × (Value → Prop) × (Value → World → Prop)) := l.map fun p => (p.1, p.2, fun _ _ => True)
theorem told_mono (l : List (Nat × (Value → Prop))) : ∀ p ∈ told l, ∀ v, Mono R (p.2.2 v) := fun p hp v => by
  obtain ⟨q, _, rfl⟩ := List.mem_map.1 hp
  exact fun _ _ _ h => h
theorem mono_true : Mono R (fun _ => True) := fun _ _ _ h => h
end calm

end Go.Proofs.YthchlfllcnlmjaaGreatDoor.CalmR

/-! Facts on drawn areas: what AreaPut, AreaFormat of a new disk and a crash leave is right. -/
namespace Go.Proofs.YthchlfllcnlmjaaGreatDoor
open Go.RowKit

theorem put_good (d : Dk) (t : ByteArray) (steps : Int) (h : (putAo d t steps).code = 0) : Right (putAo d t steps).dk := by
  by_cases h1 : 8000 < t.size
  · rw [putAo_size h1] at h; cases h
  by_cases hR : Right d
  rotate_left
  · rw [putAo_form h1 hR] at h; cases h
  classical
  unfold putAo at h ⊢
  rw [if_neg h1, if_neg (fun h' => h' hR)] at h ⊢
  by_cases hc : (readAo d).code = 0
  rotate_left
  · rw [if_pos hc] at h
    exact absurd h hc
  rw [if_neg (fun h' => h' hc)] at h ⊢
  by_cases hf : 64 * halfN d < t.size ∨ 1000000 ≤ (readAo d).gen
  · rw [if_pos hf] at h; cases h
  rw [if_neg hf] at h ⊢
  dsimp only at h ⊢
  generalize hr : putRun _ _ _ t (putN t steps) d = r at h ⊢
  obtain ⟨c, cur⟩ := r
  by_cases h0 : c = 0
  · subst h0
    rw [if_pos rfl]
    exact (putRun_right hR _ _ hr).1
  · rw [if_neg h0] at h
    exact absurd h h0
theorem format_good (d : Dk) (hR : Right d) (h3 : 3 ≤ d.S.length) (hP : d.P = []) : Right (formatAo d).dk ∧ (formatAo d).dk.S.length = d.S.length := by
  have hw : fmtDo d = ⟨⟨d.S, d.P ++ [((0 : Int), headB 0 0 0)]⟩, ⟨#[]⟩, 0⟩ := write_ok hR (head_size 0 0 0) ⟨by omega, by omega⟩ (by rw [hP]; simp)
  have hc : (fmtDo d).code = 0 := by rw [hw]
  have hr : Right (fmtDo d).dk := write_good d 0 (headB 0 0 0) hc
  have hl : (fmtDo d).dk.S.length = d.S.length := by rw [hw]
  rw [format_ok hR (by omega) hc]
  obtain ⟨h1, h2⟩ := flush_right hr
  exact ⟨h1, h2.trans hl⟩
theorem format_new (n : Int) (h1 : 3 ≤ n) (h2 : n ≤ 64) : Right (formatAo (newDk n)).dk := by
  have hR := newDk_right n (by omega) h2
  refine (format_good _ hR ?_ (newDk_P n)).1
  rw [newDk_yes n ⟨by omega, h2⟩]
  simp
  omega
theorem crash_good (d : Dk) (keep : List Int) (hR : Right d) (hk : keep.length ≤ 400) : Right (crashDk d keep) := by
  rw [crash_ok (by omega) hR]
  obtain ⟨r1, r2, r3, r4, r5⟩ := hR
  exact ⟨by simp only [flushS_len]; exact r1, by simp only [flushS_len]; exact r2, by simp, flushS_sizes _ _ 64 r4 (fun p hp => (r5 p (kept_mem _ _ _ hp)).2.2), by simp⟩
theorem set_good {d : Dk} (hR : Right d) (k : Nat) (t : ByteArray) (ht : t.size ≤ 64) : Right ⟨d.S.set k t, d.P⟩ := by
  obtain ⟨r1, r2, r3, r4, r5⟩ := hR
  refine ⟨by simpa using r1, by simpa using r2, r3, fun s hs => ?_, fun p hp => by simpa using r5 p hp⟩
  rcases List.mem_or_eq_of_mem_set hs with h | rfl
  · exact r4 s h
  · exact ht

end Go.Proofs.YthchlfllcnlmjaaGreatDoor

/-! The calm law for regions that draw: the source's block changes, and nothing else that is old. What the draw of an area holds in its boxes. -/
namespace Go.Proofs.YthchlfllcnlmjaaGreatDoor
open Go.ChangeShapes Go.WideShapes Go.ChangeAt Go.RowKit

/-- Draws were made, memory was taken: nothing else. -/
def Rd (S : Nat) (cv : Value) (len : Nat) (w w' : World) : Prop := w.grownBy w' (some S) ∧ (Src w S cv len → Src w' S cv len)
theorem Rd.of_below {S : Nat} {cv : Value} {len : Nat} {w w' : World} (h : Below w.heap.size w w') : Rd S cv len w w' := ⟨grown_below h _, fun hs => hs.below h⟩
theorem Rd.of_draw {S : Nat} {cv : Value} {len : Nat} {w w' : World} (h : w.grownBy w' (some S)) (hs : Src w' S cv len) : Rd S cv len w w' := ⟨h, fun _ => hs⟩
/-- Where a draw stands, and blocks that are known. -/
structure AtL (w : World) (S b : Nat) (cv : Value) (len : Nat) (s p : Value) (d : Dk) (L : List (Nat × Obj)) (W : World) : Prop where
  at_ : At w W S b cv len s p d
  blk : ∀ q ∈ L, w.heap.size < q.1 ∧ W.heap[q.1]? = some q.2
theorem AtL.on {w W W' : World} {S b : Nat} {cv : Value} {len : Nat} {s p : Value} {d : Dk} {L : List (Nat × Obj)} (h : AtL w S b cv len s p d L W) (hr : Rd S cv len W W') : AtL w S b cv len s p d L W' :=
  ⟨h.1.by_ hr.1 (hr.2 h.1.src), fun q hq => ⟨(h.2 q hq).1, blk_by (h.2 q hq).2 hr.1 (Nat.lt_trans h.1.low (h.2 q hq).1)⟩⟩
theorem AtL.drew {w W : World} {S b : Nat} {cv : Value} {len : Nat} {s p : Value} {d : Dk} {L : List (Nat × Obj)} (h : AtL w S b cv len s p d L W) : AtL w S b cv len s p d L W.drew := h.on (Rd.of_below (Below.refl W.heap.size W).drew)

theorem wp_region_draw_tail {P : Program} {id : Nat} {Q : Exit → Act → World → Prop} {a : Act} {W w : World} {l : List Oper} {S b : Nat} {cv : Value} {len : Nat} {s p : Value} {d : Dk} {L : List (Nat × Obj)} (N : List (Nat × (Value → Prop) × (Value → World → Prop))) (n : Nat) (hm : P.follows .mixedOrders = true) (hB : Region.lexTailB .any l.toArray n = true)
    (hN : ∀ q ∈ N, ∀ v, CalmR.Mono (Rd S cv len) (q.2.2 v)) (h0 : AtL w S b cv len s p d L W)
    (h : CalmR.wpCalm (Rd S cv len) P l.toArray .any (AtL w S b cv len s p d L) N (fun a' F => ∀ W', AtL w S b cv len s p d L W' → (∀ k, F k W') → wpList P l.toArray Q (l.drop n) a' W') (l.take n) 0 a CalmR.noF) : (Code.region id l.toArray true).wp P Q a W :=
  CalmR.wp_region_calm_tail (AtL w S b cv len s p d L) N n hm hB (fun _ _ hr h => h.on hr) (CalmR.monoN_of hN) h0.drew h

/-- An answer of an area's operation, as a value. -/
def IsAo (u : Value) : Prop := ∃ (s p : Value) (t : ByteArray) (g c : Int), u = .agg #[s, p, .string t, .int .i64 g, .int .i64 c]
/-- The answer, the call's own. -/
def AoIn (w : World) (u : Value) (W : World) : Prop := ∃ (o : Ao) (A1 A2 : Option Addr) (c1 c2 : Nat), u = .agg #[.slice A1 o.dk.S.length c1, .slice A2 o.dk.P.length c2, .string o.text, .int .i64 o.gen, .int .i64 o.code] ∧ (o.code = 0 → Right o.dk) ∧ DkOw W (w.heap.size + 1) (.agg #[.slice A1 o.dk.S.length c1, .slice A2 o.dk.P.length c2]) o.dk
theorem AoIn.mono {w : World} {S : Nat} {cv : Value} {len : Nat} (hS : S < w.heap.size) (u : Value) : CalmR.Mono (Rd S cv len) (AoIn w u) := by
  rintro W W' hr ⟨o, A1, A2, c1, c2, e, h1, h2⟩
  exact ⟨o, A1, A2, c1, c2, e, h1, h2.by_ hr.1 (by omega)⟩
theorem ao_in {w W W' : World} {d : Dk} {t : ByteArray} {steps : Int} {e : Ending} (hz : w.heap.size + 1 ≤ W.heap.size) (h : OwnsAo W (putAo d t steps) e W') : ∃ u, e = .returned u ∧ Below W.heap.size W W' ∧ IsAo u ∧ AoIn w u W' := by
  obtain ⟨A1, c1, A2, c2, rfl, ho, hb⟩ := h.parts
  exact ⟨_, rfl, hb, ⟨_, _, _, _, _, rfl⟩, _, _, _, _, _, rfl, put_good d t steps, ho.base hz⟩
/-- A disk, as a value; the call's own, and right. -/
def IsDk (u : Value) : Prop := ∃ s p : Value, u = .agg #[s, p]
def DkIn (w : World) (u : Value) (W : World) : Prop := ∃ (d : Dk) (A1 A2 : Option Addr) (c1 c2 : Nat), u = .agg #[.slice A1 d.S.length c1, .slice A2 d.P.length c2] ∧ Right d ∧ DkOw W (w.heap.size + 1) (.agg #[.slice A1 d.S.length c1, .slice A2 d.P.length c2]) d
theorem DkIn.mono {w : World} {S : Nat} {cv : Value} {len : Nat} (hS : S < w.heap.size) (u : Value) : CalmR.Mono (Rd S cv len) (DkIn w u) := by
  rintro W W' hr ⟨d, A1, A2, c1, c2, e, h1, h2⟩
  exact ⟨d, A1, A2, c1, c2, e, h1, h2.by_ hr.1 (by omega)⟩
/-- A drawn list of numbers. -/
def KeepIn (w : World) (u : Value) (W : World) : Prop := ∃ l : List Int, Ow W (w.heap.size + 1) 2 1 encI u l ∧ l.length ≤ 14
theorem KeepIn.mono {w : World} {S : Nat} {cv : Value} {len : Nat} (hS : S < w.heap.size) (u : Value) : CalmR.Mono (Rd S cv len) (KeepIn w u) := by
  rintro W W' hr ⟨l, h1, h2⟩
  exact ⟨l, h1.kept (Within.of_grown (lo := S) (hi := S + 1) hr.1 (fun g hg => by cases hg; omega)) (by omega), h2⟩
theorem dk_in {w W W' : World} {d : Dk} {l : List Int} {e : Ending} (hR : Right d) (hl : l.length ≤ 14) (hz : w.heap.size + 1 ≤ W.heap.size) (h : OwnsDk W (crashDk d l) e W') : ∃ u, e = .returned u ∧ Below W.heap.size W W' ∧ IsDk u ∧ DkIn w u W' := by
  obtain ⟨A1, c1, A2, c2, rfl, ho, hb⟩ := h.parts
  exact ⟨_, rfl, hb, ⟨_, _, rfl⟩, _, _, _, _, _, rfl, crash_good d l hR (by omega), ho.base hz⟩
/-- A new box. -/
def NewBox (w : World) (b : Nat) (o : Obj) (u : Value) (W : World) : Prop := ∃ y, u = .pointer (some ⟨y, 0, none⟩) ∧ w.heap.size < y ∧ b < y ∧ W.heap[y]? = some o
theorem NewBox.mono {w : World} {b S : Nat} {cv : Value} {len : Nat} {o : Obj} (hS : S < w.heap.size) (u : Value) : CalmR.Mono (Rd S cv len) (NewBox w b o u) := by
  rintro W W' hr ⟨y, e, h1, h2, h3⟩
  exact ⟨y, e, h1, h2, blk_by h3 hr.1 (by omega)⟩

/-- What stands behind the put: its answer in a box of its own. -/
def Aput (w W : World) (S b : Nat) (cv : Value) (len : Nat) (s p : Value) (d : Dk) (y : Value) : Prop :=
  ∃ (yb : Nat) (o : Ao) (B1 B2 : Option Addr) (e1 e2 : Nat), y = .pointer (some ⟨yb, 0, none⟩) ∧ b < yb ∧ (o.code = 0 → Right o.dk)
    ∧ W.heap[yb]? = some (.cells #[.slice B1 o.dk.S.length e1, .slice B2 o.dk.P.length e2, .string o.text, .int .i64 o.gen, .int .i64 o.code] 31 (0, 0))
    ∧ DkOw W (w.heap.size + 1) (.agg #[.slice B1 o.dk.S.length e1, .slice B2 o.dk.P.length e2]) o.dk ∧ At w W S b cv len s p d
theorem aput_set {w X : World} {S b yb : Nat} {cv : Value} {len : Nat} {s p : Value} {d : Dk} {o : Ao} {B1 B2 : Option Addr} {e1 e2 : Nat} (h : At w X S b cv len s p d) {x0 x1 x2 x3 x4 : Value} (hy : X.heap[yb]? = some (.cells #[x0, x1, x2, x3, x4] 31 (0, 0))) (hb : b < yb) (hw : o.code = 0 → Right o.dk) (ho : DkOw X (w.heap.size + 1) (.agg #[.slice B1 o.dk.S.length e1, .slice B2 o.dk.P.length e2]) o.dk) :
    Aput w (((((X.setCell ⟨yb, 0, none⟩ (.slice B1 o.dk.S.length e1)).setCell ⟨yb, 1, none⟩ (.slice B2 o.dk.P.length e2)).setCell ⟨yb, 2, none⟩ (.string o.text)).setCell ⟨yb, 3, none⟩ (.int .i64 o.gen)).setCell ⟨yb, 4, none⟩ (.int .i64 o.code)) S b cv len s p d (.pointer (some ⟨yb, 0, none⟩)) := by
  obtain ⟨y0, hy0⟩ : ∃ x, x = Value.slice B1 o.dk.S.length e1 := ⟨_, rfl⟩
  obtain ⟨y1, hy1⟩ : ∃ x, x = Value.slice B2 o.dk.P.length e2 := ⟨_, rfl⟩
  obtain ⟨y2, hy2⟩ : ∃ x, x = Value.string o.text := ⟨_, rfl⟩
  obtain ⟨y3, hy3⟩ : ∃ x, x = Value.int .i64 o.gen := ⟨_, rfl⟩
  obtain ⟨y4, hy4⟩ : ∃ x, x = Value.int .i64 o.code := ⟨_, rfl⟩
  refine ⟨yb, o, B1, B2, e1, e2, rfl, hb, hw, ?_⟩
  have hv : Value.agg #[.slice B1 o.dk.S.length e1, .slice B2 o.dk.P.length e2] = .agg #[y0, y1] := by rw [hy0, hy1]
  rw [hv] at ho ⊢
  rw [← hy0, ← hy1, ← hy2, ← hy3, ← hy4]
  have q0 : (X.setCell ⟨yb, 0, none⟩ y0).heap[yb]? = some (.cells #[y0, x1, x2, x3, x4] 31 (0, 0)) := block_set hy 0 y0
  have q1 : ((X.setCell ⟨yb, 0, none⟩ y0).setCell ⟨yb, 1, none⟩ y1).heap[yb]? = some (.cells #[y0, y1, x2, x3, x4] 31 (0, 0)) := block_set q0 1 y1
  have q2 : (((X.setCell ⟨yb, 0, none⟩ y0).setCell ⟨yb, 1, none⟩ y1).setCell ⟨yb, 2, none⟩ y2).heap[yb]? = some (.cells #[y0, y1, y2, x3, x4] 31 (0, 0)) := block_set q1 2 y2
  have q3 : ((((X.setCell ⟨yb, 0, none⟩ y0).setCell ⟨yb, 1, none⟩ y1).setCell ⟨yb, 2, none⟩ y2).setCell ⟨yb, 3, none⟩ y3).heap[yb]? = some (.cells #[y0, y1, y2, y3, x4] 31 (0, 0)) := block_set q2 3 y3
  have q4 : (((((X.setCell ⟨yb, 0, none⟩ y0).setCell ⟨yb, 1, none⟩ y1).setCell ⟨yb, 2, none⟩ y2).setCell ⟨yb, 3, none⟩ y3).setCell ⟨yb, 4, none⟩ y4).heap[yb]? = some (.cells #[y0, y1, y2, y3, y4] 31 (0, 0)) := block_set q3 4 y4
  exact ⟨q4, ((((ho.beside hy (by decide) (by decide) 0 y0).beside q0 (by decide) (by decide) 1 y1).beside q1 (by decide) (by decide) 2 y2).beside q2 (by decide) (by decide) 3 y3).beside q3 (by decide) (by decide) 4 y4,
    ((((h.other hy (by decide) (by decide) hb 0 y0).other q0 (by decide) (by decide) hb 1 y1).other q1 (by decide) (by decide) hb 2 y2).other q2 (by decide) (by decide) hb 3 y3).other q3 (by decide) (by decide) hb 4 y4⟩

end Go.Proofs.YthchlfllcnlmjaaGreatDoor

/-! The draw of a spoiled text. -/
namespace Go.Proofs.YthchlfllcnlmjaaGreatDoor
open Go.ChangeShapes Go.WideShapes Go.ChangeAt Go.RowKit

/-- A text of at most m bytes, drawn. -/
def Spoilt (m : Nat) (w : World) (S : Nat) (cv : Value) (len : Nat) (e : Ending) (w' : World) : Prop :=
  ∃ t : ByteArray, e = .returned (.string t) ∧ t.size ≤ m ∧ w.grownBy w' (some S) ∧ Src w' S cv len

set_option maxRecDepth 100000 in
/-- A number below one: nought. -/
theorem draw_nought (S : Nat) (cv : Value) (len : Nat) (most : Int) (w : World) (hS : Src w S cv len) (hm : most ≤ 1) :
    Calls Tryz.prog 32 #[.pointer (some ⟨S, 0, none⟩), .int .i64 most] w fun e w' => e = .returned (.int .i64 0) ∧ w.grownBy w' (some S) ∧ Src w' S cv len := by
  have HS := Lib.hid hS; clear hS
  go_enter Tryz.func32, Tryz.ntmps32
  go_wp2
  go_ret
  exact ⟨rfl, World.grownBy.refl _ _, HS.out⟩
/-- A number below one more than n. -/
theorem draw_upto (S : Nat) (cv : Value) (len n : Nat) (w : World) (hS : Src w S cv len) (hC : Code w S cv len) (hn : n ≤ 1000000) :
    Calls Tryz.prog 32 #[.pointer (some ⟨S, 0, none⟩), .int .i64 ((n : Int) + 1)] w fun e w' => ∃ k : Nat, e = .returned (.int .i64 (k : Int)) ∧ k ≤ n ∧ w.grownBy w' (some S) ∧ Src w' S cv len := by
  by_cases h : n = 0
  · refine (draw_nought S cv len _ w hS (by omega)).mono ?_
    rintro e w' ⟨rfl, hg, hs⟩
    exact ⟨0, rfl, by omega, hg, hs⟩
  · refine (draw_n S cv len _ w hS hC (by omega) (by omega)).mono ?_
    rintro e w' ⟨r, rfl, r0, r1, hg, hs⟩
    obtain ⟨k, rfl⟩ := Int.eq_ofNat_of_zero_le r0
    exact ⟨k, rfl, by omega, hg, hs⟩

theorem text_to (t : ByteArray) (k : Nat) (hk : k ≤ t.size) : ∃ x : ByteArray, x.size = k ∧ ∀ W : World, (Instr.slice 9 (.string t) none (some (.int .i64 (k : Int))) none).run Tryz.prog W = .ok (.string x) W :=
  ⟨t.extract 0 k, by rw [ByteArray.size_extract]; omega, fun W => by
    rw [run_slice_string_to_if (P := Tryz.prog) (w := W) 9 t .i64 (k : Int) Tryz.underlying9]
    simp [hk]⟩
theorem text_from (t : ByteArray) (k : Nat) (hk : k ≤ t.size) : ∃ x : ByteArray, x.size = t.size - k ∧ ∀ W : World, (Instr.slice 9 (.string t) (some (.int .i64 (k : Int))) none none).run Tryz.prog W = .ok (.string x) W :=
  ⟨t.extract k t.size, by rw [ByteArray.size_extract]; omega, fun W => by
    rw [run_slice_string_from_if (P := Tryz.prog) (w := W) 9 t .i64 (k : Int) Tryz.underlying9]
    simp [hk]⟩
theorem str_app {a b : ByteArray} {m n : Nat} (ha : a.size ≤ m) (hb : b.size ≤ n) : (a ++ b).size ≤ m + n := by
  rw [ByteArray.size_append]; omega

set_option maxRecDepth 100000 in
set_option maxHeartbeats 4000000 in
theorem draw_spoil (S : Nat) (cv : Value) (len : Nat) (t : ByteArray) (w : World) (hS : Src w S cv len) (hC : Code w S cv len) (ht : t.size ≤ 1000) :
    Calls Tryz.prog 73 #[.pointer (some ⟨S, 0, none⟩), .string t] w (Spoilt (t.size + 1) w S cv len) := by
  have HS := Lib.hid hS; have HC := Lib.hid hC; clear hS hC
  have hw1 : IntKind.i64.wrap ((t.size : Int) + 1) = ((t.size : Int) + 1) := IntWalk.i64_in _ (by omega)
  go_enter Tryz.func73, Tryz.ntmps73
  go_wp2_with fail
  refine (draw_upto S cv len t.size _ HS.out HC.out (by omega)).mono ?_
  rintro e w1 ⟨k, rfl, hk, hg, hs⟩
  replace HS := Lib.hid hs; replace HC := Lib.hid (HC.out.on hg); have HG := Lib.hid hg; clear hg hs
  go_wp2_with fail
  refine (draw_n S cv len 17 _ HS.out HC.out (by omega) (by omega)).mono ?_
  rintro e w2 ⟨r, rfl, q0, q1, hg, hs⟩
  replace HS := Lib.hid hs; replace HC := Lib.hid (HC.out.on hg); replace HG := Lib.hid (grown_trans HG.out hg); clear hg hs
  obtain ⟨q, rfl⟩ := Int.eq_ofNat_of_zero_le q0
  have hq : q < 17 := by omega
  have hone : ∀ x : UInt8, (convert 22 9 (.slice (some ⟨w2.heap.size, 0, none⟩) 1 1)).run Tryz.prog (w2.alloc (.cells #[.int .u8 (x.toNat : Int)] 5)) = .ok (.string ⟨#[x]⟩) (w2.alloc (.cells #[.int .u8 (x.toNat : Int)] 5)) := fun x => by
    have h := one_byte w2 x.toNat x.toNat_lt
    simpa using h
  have HB := Lib.hid (World.grownBy_alloc w2 (.cells #[.int .u8 (({ data := #[32, 10, 48, 97, 45, 110, 44, 58, 93, 255, 40, 120, 126, 49, 128, 225, 59] } : ByteArray)[q].toNat : Int)] 5) (some S))
  obtain ⟨t1, ht1, hs1⟩ := text_to t k hk
  obtain ⟨t2, ht2, hs2⟩ := text_from t k hk
  have INS : ∀ W : World, w.grownBy W (some S) → Src W S cv len → Spoilt (t.size + 1) w S cv len (.returned (.string (t1 ++ ⟨#[({ data := #[32, 10, 48, 97, 45, 110, 44, 58, 93, 255, 40, 120, 126, 49, 128, 225, 59] } : ByteArray)[q]]⟩ ++ t2))) W := fun W hg hs => by
    refine ⟨_, rfl, ?_, hg, hs⟩
    have h1 : (ByteArray.mk #[({ data := #[32, 10, 48, 97, 45, 110, 44, 58, 93, 255, 40, 120, 126, 49, 128, 225, 59] } : ByteArray)[q]]).size = 1 := rfl
    rw [ByteArray.size_append, ByteArray.size_append, h1]
    omega
  by_cases hkt : k = t.size
  · subst hkt
    go_wp2
    go_region
    go_wp2
    go_ret
    exact INS _ (grown_trans HG.out (grownBy_drew HB.out)) (HS.out.alloc _).drew
  · have hkt' : ¬ (k : Int) = (t.size : Int) := by omega
    have hw2 : IntKind.i64.wrap ((k : Int) + 1) = ((k + 1 : Nat) : Int) := IntWalk.i64_in _ (by omega)
    have HI := Lib.hid INS
    clear INS
    go_wp2_with fail
    refine (draw_one S cv len 3 _ (HS.out.alloc _) (HC.out.on HB.out) (by omega)).mono ?_
    rintro e w3 ⟨b, rfl, hg, hs⟩
    replace HC := Lib.hid ((HC.out.on HB.out).on hg); replace HG := Lib.hid (grown_trans HG.out (grown_trans HB.out hg)); replace HS := Lib.hid hs; clear hg hs HB
    cases b
    · go_wp2_with fail
      refine (draw_one S cv len 2 _ HS.out HC.out (by omega)).mono ?_
      rintro e w4 ⟨b, rfl, hg, hs⟩
      replace HG := Lib.hid (grown_trans HG.out hg); replace HS := Lib.hid hs; clear hg hs
      cases b
      · go_wp2
        go_region
        go_wp2
        go_ret
        refine ⟨_, rfl, ?_, grownBy_drew HG.out, HS.out.drew⟩
        have h1 : (ByteArray.mk #[({ data := #[32, 10, 48, 97, 45, 110, 44, 58, 93, 255, 40, 120, 126, 49, 128, 225, 59] } : ByteArray)[q]]).size = 1 := rfl
        rw [ByteArray.size_append, ByteArray.size_append, h1, ByteArray.size_extract]
        omega
      · go_wp2
        go_region
        go_wp2
        go_ret
        refine ⟨_, rfl, ?_, grownBy_drew HG.out, HS.out.drew⟩
        rw [ByteArray.size_append, ByteArray.size_extract]
        omega
    · go_wp2
      go_region
      go_wp2
      go_ret
      exact HI.out _ (grownBy_drew HG.out) HS.out.drew

end Go.Proofs.YthchlfllcnlmjaaGreatDoor

/-! A drawn disk, one of its sectors stored anew. -/
namespace Go.Proofs.YthchlfllcnlmjaaGreatDoor
open Go.ChangeShapes Go.WideShapes Go.ChangeAt Go.RowKit

theorem ow_setk {W : World} {base g n c k : Nat} {L : List ByteArray} (h : Ow W base 9 1 encS (.slice (some ⟨g, 0, none⟩) n c) L) (t : ByteArray) : Ow (W.setCell ⟨g, k, none⟩ (.string t)) base 9 1 encS (.slice (some ⟨g, 0, none⟩) n c) (L.set k t) := by
  obtain ⟨h1, h2⟩ := h
  rcases h2 with ⟨e, _⟩ | ⟨g', cap, cur, e, hb, hg, hc1, hc2, hc3, hx⟩
  · cases e
  · injection e with e1 e2 e3
    injection e1 with e1
    injection e1 with e1
    subst e1 e2 e3
    have hx' : (cur.setIfInBounds k (.string t)).toList.take (L.length * 1) = (L.set k t).flatMap encS := by
      rw [Array.toList_setIfInBounds, List.take_set, hx]
      show (L.flatMap fun x => [Value.string x]).set k (.string t) = (L.set k t).flatMap fun x => [Value.string x]
      rw [flat_one Value.string, flat_one Value.string, List.map_set]
    refine ⟨?_, .inr ⟨g, c, cur.setIfInBounds k (.string t), ?_, hb, block_set hg k _, ?_, hc2, by simpa using hc3, ?_⟩⟩
    · exact flat_len 1 encS encS_len (L.set k t)
    · rw [List.length_set]
    · rw [List.length_set]; exact hc1
    · rw [List.length_set]; exact hx'
theorem At.setK {w W : World} {S b : Nat} {cv : Value} {len g n c k : Nat} {p : Value} {d : Dk} (h : At w W S b cv len (.slice (some ⟨g, 0, none⟩) n c) p d) (hn : n = d.S.length) (t : ByteArray) : At w (W.setCell ⟨g, k, none⟩ (.string t)) S b cv len (.slice (some ⟨g, 0, none⟩) n c) p ⟨d.S.set k t, d.P⟩ := by
  subst hn
  obtain ⟨s', p', e, hs, hp⟩ := h.own
  simp only [Value.agg.injEq, Array.mk.injEq, List.cons.injEq, and_true] at e
  obtain ⟨rfl, rfl⟩ := e
  have h1 := h.low
  have h2 := h.far
  have hl := (World.ownsRow.lt hs) g rfl
  have hgb : b ≠ g := hs.type h.box (by decide) g rfl
  refine ⟨h.src.far g k _ (by omega), grown_set_far h.grown g k _ (by omega), h1, h2, by rw [Below.heap_setCell _ _ _ _ (by simp only; omega)]; exact h.res, by rw [Below.heap_setCell _ _ _ _ (by simp only; omega)]; exact h.box, ⟨_, _, rfl, ow_setk hs t, hp.aside (fun g' hg' => ?_) _⟩⟩
  rcases hp.apart hs (by decide) with e | e
  · rw [e] at hg'; cases hg'
  · intro hh
    exact e (by rw [hg']; exact congrArg some hh.symm)
theorem At.cellS {w W : World} {S b : Nat} {cv : Value} {len g n c : Nat} {p : Value} {d : Dk} (h : At w W S b cv len (.slice (some ⟨g, 0, none⟩) n c) p d) (k : Nat) (hk : k < d.S.length) : W.cell? ⟨g, k, none⟩ = some (.string d.S[k]) ∧ W.frozen? ⟨g, k, none⟩ = false := by
  constructor
  · obtain ⟨ad, c', e, _, hc⟩ := (h.ownS.sl encS_len).one k hk
    simp only [Value.slice.injEq, Option.some.injEq] at e
    obtain ⟨rfl, _, _⟩ := e
    have e2 : (⟨g, 0, none⟩ : Addr).add k = ⟨g, k, none⟩ := by simp [Addr.add]; omega
    rwa [e2] at hc
  · rcases h.ownS.2 with ⟨e, _⟩ | ⟨g', cap, cur, e, hb, hg, _⟩
    · cases e
    · injection e with e1 e2 e3
      injection e1 with e1
      injection e1 with e1
      subst e1
      exact block_free hg k
/-- Another disk is handed back. -/
theorem At.done_else {w W : World} {S b base : Nat} {cv : Value} {len : Nat} {s p : Value} {d d2 : Dk} {A1 A2 : Option Addr} {c1 c2 : Nat} (h : At w W S b cv len s p d) (ho : DkOw W base (.agg #[.slice A1 d2.S.length c1, .slice A2 d2.P.length c2]) d2) (hb : w.heap.size + 1 ≤ base) (hd : Drawn d2) :
    SomeDisk w S cv len (.returned (.agg #[.slice A1 d2.S.length c1, .slice A2 d2.P.length c2])) ((W.setCell ⟨w.heap.size, 0, none⟩ (.slice A1 d2.S.length c1)).setCell ⟨w.heap.size, 1, none⟩ (.slice A2 d2.P.length c2)) := by
  have h4 := h.low
  exact ⟨A1, c1, A2, c2, d2, rfl, ((ho.far (by simp only; omega) _).far (by simp only; omega) _).base (by omega), hd, grown_set_far (grown_set_far h.grown _ _ _ (Nat.le_refl _)) _ _ _ (Nat.le_refl _), (h.src.far _ _ _ (by omega)).far _ _ _ (by omega)⟩
/-- A number below n. -/
theorem draw_below (S : Nat) (cv : Value) (len n : Nat) (w : World) (hS : Src w S cv len) (hC : Code w S cv len) (h1 : 1 ≤ n) (hn : n ≤ 1000000) :
    Calls Tryz.prog 32 #[.pointer (some ⟨S, 0, none⟩), .int .i64 (n : Int)] w fun e w' => ∃ k : Nat, e = .returned (.int .i64 (k : Int)) ∧ k < n ∧ w.grownBy w' (some S) ∧ Src w' S cv len := by
  have h := draw_upto S cv len (n - 1) w hS hC (by omega)
  rw [show ((n - 1 : Nat) : Int) + 1 = (n : Int) by omega] at h
  refine h.mono ?_
  rintro e w' ⟨k, rfl, hk, hg, hs⟩
  exact ⟨k, rfl, by omega, hg, hs⟩

end Go.Proofs.YthchlfllcnlmjaaGreatDoor

/-! The draw of an area: l03Disk. -/
namespace Go.Proofs.YthchlfllcnlmjaaGreatDoor
open Go.ChangeShapes Go.WideShapes Go.ChangeAt Go.RowKit

theorem field_area (A1 : Option Addr) (n1 c1 : Nat) (A2 : Option Addr) (n2 c2 : Nat) (t : ByteArray) (g c : Int) (W : World) : (Instr.field 31 (.agg #[.slice A1 n1 c1, .slice A2 n2 c2, .string t, .int .i64 g, .int .i64 c]) 0).run Tryz.prog W = .ok (.agg #[.slice A1 n1 c1, .slice A2 n2 c2]) W := by kernel_rfl

set_option maxRecDepth 100000 in
set_option maxHeartbeats 4000000 in
theorem draw_area (S : Nat) (cv : Value) (len : Nat) (w : World) (hS : Src w S cv len) (hC : Code w S cv len) :
    Calls Tryz.prog 30 #[.pointer (some ⟨S, 0, none⟩)] w (SomeDisk w S cv len) := by
  have HS := Lib.hid hS; have HC := Lib.hid hC
  have hSl : S < w.heap.size := hS.lt
  have HSL := Lib.hid hSl
  clear hS hC
  go_enter Tryz.func30, Tryz.ntmps30
  go_wp2_with fail
  have hA0 : w.grownBy (w.alloc (.cells #[.slice none 0 0, .slice none 0 0] 26)) (some S) := World.grownBy_alloc _ _ _
  refine (draw_n S cv len 12 _ (HS.out.keep (heap_alloc_old _ _ hSl)) (HC.out.on hA0) (by omega) (by omega)).mono ?_
  rintro e w1 ⟨r, rfl, r0, r1, hg1, hs1⟩
  have HG1 := Lib.hid (grown_trans hA0 hg1)
  have HS1 := Lib.hid hs1
  have HR1 := Lib.hid (blk_by (heap_alloc_new w (.cells #[.slice none 0 0, .slice none 0 0] 26)) hg1 hSl)
  have hz1 := hg1.size
  simp only [World.size_alloc] at hz1
  clear hg1 hs1 hA0
  go_wp2_with fail
  refine (spec_disknew (3 + r) w1).mono ?_
  intro e w2 h2
  obtain ⟨A1, c1, A2, c2, rfl, ho2, hb2⟩ := h2.parts
  have hz2 := hb2.size
  have HO2 := Lib.hid ho2
  have HB2 := Lib.hid hb2
  have hR2 := newDk_right (3 + r) (by omega) (by omega)
  have HF := Lib.hid (format_new (3 + r) (by omega) (by omega))
  clear h2 ho2 hb2
  go_wp2_with fail
  refine (spec_format _ (newDk (3 + r)) w2 HO2.out.at_ (right_small hR2)).mono ?_
  intro e w3 h3
  obtain ⟨B1, e1, B2, e2, rfl, ho3, hb3⟩ := h3.parts
  have hz3 := hb3.size
  have HB3 := Lib.hid (HB2.out.trans (hb3.mono hz2))
  have HO3 := Lib.hid ho3
  clear h3 ho3 hb3 HB2 HO2 hR2
  generalize formatAo (newDk (3 + r)) = fo at *
  obtain ⟨d, ft, fg, fc⟩ := fo
  simp only at HF HO3 ⊢
  have HA := Lib.hid (show ∀ (s p : Value), DkOw w3 w2.heap.size (.agg #[s, p]) d → At w (w3.alloc (.cells #[s, p] 26)) S w3.heap.size cv len s p d from fun s p ho => ⟨(HS1.out.below HB3.out).below ((Below.refl _ _).alloc (Nat.le_refl _) _), grown_trans (grown_trans HG1.out (grown_below HB3.out _)) (World.grownBy_alloc _ _ _), hSl, by omega, alloc_blk (keep_blk HB3.out HR1.out) _, heap_alloc_new _ _, (ho.base (by omega)).alloc _⟩)
  replace HA := Lib.hid (HA.out _ _ HO3.out)
  have HRt := HF
  clear HO3 HB3 HF HG1 HS1 HR1
  have hfd := fun W => field_area B1 d.S.length e1 B2 d.P.length e2 ft fg fc W
  go_wp2_with fail
  refine (draw_n S cv len 5 _ HA.out.src (HC.out.on HA.out.grown) (by omega) (by omega)).mono ?_
  rintro e w4 ⟨q, rfl, q0, q1, hg3, hs3⟩
  replace HA := Lib.hid (HA.out.by_ hg3 hs3)
  clear hg3 hs3 hz1 hz2 hz3 r0 r1 hfd
  obtain ⟨n, rfl⟩ := Int.eq_ofNat_of_zero_le q0
  go_wp2
  go_loopw [4] (fun i wr => ∃ (k : Nat) (d : Dk) (A1 A2 : Option Addr) (c1 c2 : Nat), i = .int .i64 (k : Int) ∧ k ≤ 5 ∧ Right d ∧ At w wr S w3.heap.size cv len (.slice A1 d.S.length c1) (.slice A2 d.P.length c2) d) (fun i _ => (intOf i).toNat)
  case atStart => exact ⟨n, d, B1, B2, e1, e2, rfl, by omega, HRt.out, HA.out⟩
  case round =>
    clear HA HRt HS q0 q1
    obtain ⟨k, d, A1, A2, c1, c2, rfl, hk, hR, hA⟩ := hrel
    have HA := Lib.hid hA; have HR := Lib.hid hR
    have h3 := hA.far
    clear hA hR
    by_cases hlt : 0 < k
    · have h4 := block_lt HA.out.box
      go_upto_region 5 with fail
      go_cut [5] from 19 to 34 (fun y wx => Aput w wx S w3.heap.size cv len (.slice A1 d.S.length c1) (.slice A2 d.P.length c2) d y)
      case first =>
        go_upto_region 5 with fail
        refine wp_region_draw_tail (L := []) [(3, (fun u => ∃ r : Int, u = .int .i64 r ∧ 0 ≤ r ∧ r < 90), (fun _ _ => True)), (4, (fun u => ∃ l : List UInt8, u = .string ⟨l.toArray⟩ ∧ (ByteArray.mk l.toArray).size ≤ 1048576), (fun _ _ => True)), (5, IsAo, AoIn w), (6, (fun u => ∃ y, u = .pointer (some ⟨y, 0, none⟩)), NewBox w w3.heap.size (.cells #[.slice none 0 0, .slice none 0 0, .string ⟨#[]⟩, .int .i64 0, .int .i64 0] 31 (0, 0)))] 7 (by kernel_rfl) (by kernel_rfl) (by
          intro q hq v
          simp only [List.mem_cons, List.not_mem_nil, or_false] at hq
          rcases hq with rfl | rfl | rfl | rfl
          · exact fun _ _ _ h => h
          · exact fun _ _ _ h => h
          · exact AoIn.mono HSL.out v
          · exact NewBox.mono HSL.out v) ⟨HA.out, by simp⟩ ?_
        repeat (first
          | (refine CalmR.calm_skip (by rfl) ?_; try simp only [Act.put, List.setIfInBounds_toArray, List.set_cons_zero, List.set_cons_succ])
          | (refine CalmR.calm_plain (by rfl) (by rfl) ?_; apply Exists.intro; refine ⟨fun wc hC hD => ?_, ?_⟩; (focus (clear hD; obtain ⟨k0, k1⟩ := box2 hC.1.box; clear hC; go_simp; first | done | with_reducible rfl)); try simp only [Act.put, List.setIfInBounds_toArray, List.set_cons_zero, List.set_cons_succ]))
        refine CalmR.calm_call _ _ (by rfl) (by rfl) ?_ ?_
        focus
          apply Exists.intro
          apply Exists.intro
          refine ⟨fun wc hC hD => ?_, fun wc hC hD => ?_⟩
          focus (clear hD; obtain ⟨k0, k1⟩ := box2 hC.1.box; clear hC; go_simp; first | done | with_reducible exact ⟨rfl, rfl⟩)
          clear hD
          with_reducible refine (draw_n S cv len 90 _ hC.1.src (HC.out.on hC.1.grown) (by omega) (by omega)).mono ?_
          rintro e wx ⟨r, rfl, r0, r1, hg, hs⟩
          exact ⟨_, rfl, Rd.of_draw hg hs, ⟨r, rfl, r0, r1⟩, trivial⟩
        rintro _ ⟨r90, rfl, hr0, hr1⟩
        try simp only [Act.put, List.setIfInBounds_toArray, List.set_cons_zero, List.set_cons_succ]
        repeat (first
          | (refine CalmR.calm_skip (by rfl) ?_; try simp only [Act.put, List.setIfInBounds_toArray, List.set_cons_zero, List.set_cons_succ])
          | (refine CalmR.calm_plain (by rfl) (by rfl) ?_; apply Exists.intro; refine ⟨fun wc hC hD => ?_, ?_⟩; (focus (clear hD; obtain ⟨k0, k1⟩ := box2 hC.1.box; clear hC; go_simp; first | done | with_reducible rfl)); try simp only [Act.put, List.setIfInBounds_toArray, List.set_cons_zero, List.set_cons_succ]))
        refine CalmR.calm_call _ _ (by rfl) (by rfl) ?_ ?_
        focus
          apply Exists.intro
          apply Exists.intro
          refine ⟨fun wc hC hD => ?_, fun wc hC hD => ?_⟩
          focus (clear hD; obtain ⟨k0, k1⟩ := box2 hC.1.box; clear hC; go_simp; first | done | with_reducible exact ⟨rfl, rfl⟩)
          clear hD
          with_reducible refine (draw_bytes S cv len _ _ hC.1.src (HC.out.on hC.1.grown) (by omega)).mono ?_
          rintro e wx ⟨l, rfl, hl, hg, hs⟩
          exact ⟨_, rfl, Rd.of_draw hg hs, ⟨l, rfl, by rw [str_size, hl]; omega⟩, trivial⟩
        rintro _ ⟨l, rfl, hl⟩
        try simp only [Act.put, List.setIfInBounds_toArray, List.set_cons_zero, List.set_cons_succ]
        repeat (first
          | (refine CalmR.calm_skip (by rfl) ?_; try simp only [Act.put, List.setIfInBounds_toArray, List.set_cons_zero, List.set_cons_succ])
          | (refine CalmR.calm_plain (by rfl) (by rfl) ?_; apply Exists.intro; refine ⟨fun wc hC hD => ?_, ?_⟩; (focus (clear hD; obtain ⟨k0, k1⟩ := box2 hC.1.box; clear hC; go_simp; first | done | with_reducible rfl)); try simp only [Act.put, List.setIfInBounds_toArray, List.set_cons_zero, List.set_cons_succ]))
        refine CalmR.calm_call _ _ (by rfl) (by rfl) ?_ ?_
        focus
          apply Exists.intro
          apply Exists.intro
          refine ⟨fun wc hC hD => ?_, fun wc hC hD => ?_⟩
          focus (clear hD; obtain ⟨k0, k1⟩ := box2 hC.1.box; clear hC; go_simp; first | done | with_reducible exact ⟨rfl, rfl⟩)
          clear hD
          with_reducible refine (spec_aput _ d _ _ _ hC.1.own.at_ (right_small HR.out) hl).mono ?_
          intro e wx h
          obtain ⟨u, rfl, hb, hu, hi⟩ := ao_in (w := w) (by have := block_lt hC.1.box; have := hC.1.far; omega) h
          exact ⟨u, rfl, Rd.of_below hb, hu, hi⟩
        rintro _ ⟨ps, pp, pt, pg, pc, rfl⟩
        try simp only [Act.put, List.setIfInBounds_toArray, List.set_cons_zero, List.set_cons_succ]
        repeat (first
          | (refine CalmR.calm_skip (by rfl) ?_; try simp only [Act.put, List.setIfInBounds_toArray, List.set_cons_zero, List.set_cons_succ])
          | (refine CalmR.calm_plain (by rfl) (by rfl) ?_; apply Exists.intro; refine ⟨fun wc hC hD => ?_, ?_⟩; (focus (clear hD; obtain ⟨k0, k1⟩ := box2 hC.1.box; clear hC; go_simp; first | done | with_reducible rfl)); try simp only [Act.put, List.setIfInBounds_toArray, List.set_cons_zero, List.set_cons_succ]))
        refine CalmR.calm_make _ _ (by rfl) (by rfl) ?_ ?_
        focus
          intro wc hC hD
          clear hD
          exact ⟨.pointer (some ⟨wc.heap.size, 0, none⟩), wc.alloc (.cells #[.slice none 0 0, .slice none 0 0, .string ⟨#[]⟩, .int .i64 0, .int .i64 0] 31), (by go_simp), Rd.of_below ((Below.refl _ _).alloc (Nat.le_refl _) _), ⟨_, rfl⟩, _, rfl, (by have := block_lt hC.1.box; have := hC.1.far; omega), block_lt hC.1.box, heap_alloc_new _ _⟩
        rintro _ ⟨y, rfl⟩
        try simp only [Act.put, List.setIfInBounds_toArray, List.set_cons_zero, List.set_cons_succ]
        repeat (first
          | (refine CalmR.calm_skip (by rfl) ?_; try simp only [Act.put, List.setIfInBounds_toArray, List.set_cons_zero, List.set_cons_succ])
          | (refine CalmR.calm_plain (by rfl) (by rfl) ?_; apply Exists.intro; refine ⟨fun wc hC hD => ?_, ?_⟩; (focus (clear hD; obtain ⟨k0, k1⟩ := box2 hC.1.box; clear hC; go_simp; first | done | with_reducible rfl)); try simp only [Act.put, List.setIfInBounds_toArray, List.set_cons_zero, List.set_cons_succ]))
        refine CalmR.calm_end ?_
        intro w7 hL7 hF7
        have hI := hF7 5
        simp [CalmR.upd, CalmR.noF] at hI
        have hY := hF7 6
        simp [CalmR.upd, CalmR.noF] at hY
        clear hF7
        simp only [List.drop_succ_cons, List.drop_zero]
        obtain ⟨o, B1, B2, e1, e2, e, hgo, ho⟩ := hI
        simp only [Value.agg.injEq, Array.mk.injEq, List.cons.injEq, and_true, Value.string.injEq, Value.int.injEq, true_and] at e
        obtain ⟨rfl, rfl, rfl, rfl, rfl⟩ := e
        obtain ⟨yb, e, hy1, hy2, hy3⟩ := hY
        simp only [Value.pointer.injEq, Option.some.injEq, Addr.mk.injEq, and_true] at e
        subst e
        have HD := Lib.hid hL7.at_
        have HY := Lib.hid hy3; have HO := Lib.hid ho; have HGO := Lib.hid hgo
        clear hL7 hy3 ho hgo hr0 hr1 hl HA
        obtain ⟨p0, p1, p2, p3, p4⟩ := box5 HY.out
        obtain ⟨m0, m1, m2, m3⟩ := box_frozen HY.out
        have m4 : w7.frozen? ⟨y, 4, none⟩ = false := block_free HY.out 4
        go_wp2_with fail
        go_meet
        exact aput_set HD.out HY.out hy2 HGO.out HO.out
      case rest =>
        clear HA
        obtain ⟨yb, o, B1, B2, e1, e2, rfl, hyb, hgo, hy, ho, hA⟩ := hcut
        have HA := Lib.hid hA; have HY := Lib.hid hy; have HO := Lib.hid ho; have HGO := Lib.hid hgo
        clear hA hy ho hgo
        go_wp2_with fail
        refine (draw_one S cv len 4 _ HA.out.src (HC.out.on HA.out.grown) (by omega)).mono ?_
        rintro e wf ⟨b4, rfl, hg, hs⟩
        replace HY := Lib.hid (blk_by HY.out hg (by omega))
        replace HO := Lib.hid (HO.out.by_ hg (by omega))
        replace HA := Lib.hid (HA.out.by_ hg hs)
        clear hg hs
        cases b4
        · obtain ⟨dk, tx, gn, cd⟩ := o
          simp only at HGO HY HO
          obtain ⟨y0, y1, y2, y3, y4⟩ := box5 HY.out
          obtain ⟨k0, k1⟩ := box2 HA.out.box
          obtain ⟨g0, g1, _, _⟩ := box_frozen HA.out.box
          by_cases hc : cd = 0
          · subst hc
            have HR1 := Lib.hid (HGO.out rfl)
            replace HA := Lib.hid (HA.out.put HO.out)
            clear HO HY HGO
            go_wp2_with fail
            refine (draw_one S cv len 5 _ HA.out.src (HC.out.on HA.out.grown) (by omega)).mono ?_
            rintro e wg ⟨b5, rfl, hg, hs⟩
            replace HA := Lib.hid (HA.out.by_ hg hs)
            clear hg hs k0 k1 g0 g1 y0 y1 y2 y3 y4
            cases b5
            · go_wp2
              go_roundw
              case rel => exact ⟨k - 1, dk, B1, B2, e1, e2, by go_num, by omega, HR1.out, HA.out⟩
              case measure => simp [intOf]; omega
            · go_upto_region 11 with fail
              refine wp_region_draw_tail (L := []) [(2, (fun _ => True), KeepIn w), (3, IsDk, DkIn w)] 4 (by kernel_rfl) (by kernel_rfl) (by
                intro q hq v
                simp only [List.mem_cons, List.not_mem_nil, or_false] at hq
                rcases hq with rfl | rfl
                · exact KeepIn.mono HSL.out v
                · exact DkIn.mono HSL.out v) ⟨HA.out, by simp⟩ ?_
              repeat (first
                | (refine CalmR.calm_skip (by rfl) ?_; try simp only [Act.put, List.setIfInBounds_toArray, List.set_cons_zero, List.set_cons_succ])
                | (refine CalmR.calm_plain (by rfl) (by rfl) ?_; apply Exists.intro; refine ⟨fun wc hC hD => ?_, ?_⟩; (focus (clear hD; obtain ⟨k0, k1⟩ := box2 hC.1.box; clear hC; go_simp; first | done | with_reducible rfl)); try simp only [Act.put, List.setIfInBounds_toArray, List.set_cons_zero, List.set_cons_succ]))
              refine CalmR.calm_call _ _ (by rfl) (by rfl) ?_ ?_
              focus
                apply Exists.intro
                apply Exists.intro
                refine ⟨fun wc hC hD => ?_, fun wc hC hD => ?_⟩
                focus (clear hD; obtain ⟨k0, k1⟩ := box2 hC.1.box; clear hC; go_simp; first | done | with_reducible exact ⟨rfl, rfl⟩)
                clear hD
                with_reducible refine (draw_keep S cv len _ hC.1.src (HC.out.on hC.1.grown)).mono ?_
                rintro e wx ⟨u, l, rfl, ho, hl, hg, hs⟩
                exact ⟨u, rfl, Rd.of_draw hg hs, trivial, l, Ow.base ho (by have := block_lt hC.1.box; have := hC.1.far; omega), hl⟩
              rintro vk -
              try simp only [Act.put, List.setIfInBounds_toArray, List.set_cons_zero, List.set_cons_succ]
              repeat (first
                | (refine CalmR.calm_skip (by rfl) ?_; try simp only [Act.put, List.setIfInBounds_toArray, List.set_cons_zero, List.set_cons_succ])
                | (refine CalmR.calm_plain (by rfl) (by rfl) ?_; apply Exists.intro; refine ⟨fun wc hC hD => ?_, ?_⟩; (focus (clear hD; obtain ⟨k0, k1⟩ := box2 hC.1.box; clear hC; go_simp; first | done | with_reducible rfl)); try simp only [Act.put, List.setIfInBounds_toArray, List.set_cons_zero, List.set_cons_succ]))
              refine CalmR.calm_call _ _ (by rfl) (by rfl) ?_ ?_
              focus
                apply Exists.intro
                apply Exists.intro
                refine ⟨fun wc hC hD => ?_, fun wc hC hD => ?_⟩
                focus (clear hD; obtain ⟨k0, k1⟩ := box2 hC.1.box; clear hC; go_simp; first | done | with_reducible exact ⟨rfl, rfl⟩)
                have hk := CalmR.Deps.get hD 2 (by kernel_rfl)
                simp [CalmR.upd, CalmR.noF] at hk
                clear hD
                obtain ⟨l, hk, hl⟩ := hk
                with_reducible refine (spec_crash _ vk dk l _ hC.1.own.at_ (Ow.sl hk encI_len) (right_small HR1.out) (by omega)).mono ?_
                intro e wx h
                obtain ⟨u, rfl, hb, hu, hi⟩ := dk_in (w := w) HR1.out hl (by have := block_lt hC.1.box; have := hC.1.far; omega) h
                exact ⟨u, rfl, Rd.of_below hb, hu, hi⟩
              rintro _ ⟨ps, pp, rfl⟩
              try simp only [Act.put, List.setIfInBounds_toArray, List.set_cons_zero, List.set_cons_succ]
              repeat (first
                | (refine CalmR.calm_skip (by rfl) ?_; try simp only [Act.put, List.setIfInBounds_toArray, List.set_cons_zero, List.set_cons_succ])
                | (refine CalmR.calm_plain (by rfl) (by rfl) ?_; apply Exists.intro; refine ⟨fun wc hC hD => ?_, ?_⟩; (focus (clear hD; obtain ⟨k0, k1⟩ := box2 hC.1.box; clear hC; go_simp; first | done | with_reducible rfl)); try simp only [Act.put, List.setIfInBounds_toArray, List.set_cons_zero, List.set_cons_succ]))
              refine CalmR.calm_end ?_
              intro w7 hL7 hF7
              have hI := hF7 3
              simp [CalmR.upd, CalmR.noF] at hI
              clear hF7
              simp only [List.drop_succ_cons, List.drop_zero]
              obtain ⟨d3, D1, D2, q1, q2, e, hR3, ho⟩ := hI
              simp only [Value.agg.injEq, Array.mk.injEq, List.cons.injEq, and_true] at e
              obtain ⟨rfl, rfl⟩ := e
              have HD := Lib.hid hL7.at_
              have HO7 := Lib.hid ho; have HR3 := Lib.hid hR3
              clear hL7 ho hR3 HA
              obtain ⟨k0, k1⟩ := box2 HD.out.box
              obtain ⟨g0, g1, _, _⟩ := box_frozen HD.out.box
              go_wp2
              go_roundw
              case rel => exact ⟨k - 1, d3, D1, D2, q1, q2, by go_num, by omega, HR3.out, HD.out.put HO7.out⟩
              case measure => simp [intOf]; omega

          · clear HO HGO HY
            go_wp2_with fail
            refine (draw_one S cv len 5 _ HA.out.src (HC.out.on HA.out.grown) (by omega)).mono ?_
            rintro e wg ⟨b5, rfl, hg, hs⟩
            replace HA := Lib.hid (HA.out.by_ hg hs)
            clear hg hs k0 k1 g0 g1 y0 y1 y2 y3 y4
            cases b5
            · go_wp2
              go_roundw
              case rel => exact ⟨k - 1, d, A1, A2, c1, c2, by go_num, by omega, HR.out, HA.out⟩
              case measure => simp [intOf]; omega
            · go_upto_region 11 with fail
              refine wp_region_draw_tail (L := []) [(2, (fun _ => True), KeepIn w), (3, IsDk, DkIn w)] 4 (by kernel_rfl) (by kernel_rfl) (by
                intro q hq v
                simp only [List.mem_cons, List.not_mem_nil, or_false] at hq
                rcases hq with rfl | rfl
                · exact KeepIn.mono HSL.out v
                · exact DkIn.mono HSL.out v) ⟨HA.out, by simp⟩ ?_
              repeat (first
                | (refine CalmR.calm_skip (by rfl) ?_; try simp only [Act.put, List.setIfInBounds_toArray, List.set_cons_zero, List.set_cons_succ])
                | (refine CalmR.calm_plain (by rfl) (by rfl) ?_; apply Exists.intro; refine ⟨fun wc hC hD => ?_, ?_⟩; (focus (clear hD; obtain ⟨k0, k1⟩ := box2 hC.1.box; clear hC; go_simp; first | done | with_reducible rfl)); try simp only [Act.put, List.setIfInBounds_toArray, List.set_cons_zero, List.set_cons_succ]))
              refine CalmR.calm_call _ _ (by rfl) (by rfl) ?_ ?_
              focus
                apply Exists.intro
                apply Exists.intro
                refine ⟨fun wc hC hD => ?_, fun wc hC hD => ?_⟩
                focus (clear hD; obtain ⟨k0, k1⟩ := box2 hC.1.box; clear hC; go_simp; first | done | with_reducible exact ⟨rfl, rfl⟩)
                clear hD
                with_reducible refine (draw_keep S cv len _ hC.1.src (HC.out.on hC.1.grown)).mono ?_
                rintro e wx ⟨u, l, rfl, ho, hl, hg, hs⟩
                exact ⟨u, rfl, Rd.of_draw hg hs, trivial, l, Ow.base ho (by have := block_lt hC.1.box; have := hC.1.far; omega), hl⟩
              rintro vk -
              try simp only [Act.put, List.setIfInBounds_toArray, List.set_cons_zero, List.set_cons_succ]
              repeat (first
                | (refine CalmR.calm_skip (by rfl) ?_; try simp only [Act.put, List.setIfInBounds_toArray, List.set_cons_zero, List.set_cons_succ])
                | (refine CalmR.calm_plain (by rfl) (by rfl) ?_; apply Exists.intro; refine ⟨fun wc hC hD => ?_, ?_⟩; (focus (clear hD; obtain ⟨k0, k1⟩ := box2 hC.1.box; clear hC; go_simp; first | done | with_reducible rfl)); try simp only [Act.put, List.setIfInBounds_toArray, List.set_cons_zero, List.set_cons_succ]))
              refine CalmR.calm_call _ _ (by rfl) (by rfl) ?_ ?_
              focus
                apply Exists.intro
                apply Exists.intro
                refine ⟨fun wc hC hD => ?_, fun wc hC hD => ?_⟩
                focus (clear hD; obtain ⟨k0, k1⟩ := box2 hC.1.box; clear hC; go_simp; first | done | with_reducible exact ⟨rfl, rfl⟩)
                have hk := CalmR.Deps.get hD 2 (by kernel_rfl)
                simp [CalmR.upd, CalmR.noF] at hk
                clear hD
                obtain ⟨l, hk, hl⟩ := hk
                with_reducible refine (spec_crash _ vk d l _ hC.1.own.at_ (Ow.sl hk encI_len) (right_small HR.out) (by omega)).mono ?_
                intro e wx h
                obtain ⟨u, rfl, hb, hu, hi⟩ := dk_in (w := w) HR.out hl (by have := block_lt hC.1.box; have := hC.1.far; omega) h
                exact ⟨u, rfl, Rd.of_below hb, hu, hi⟩
              rintro _ ⟨ps, pp, rfl⟩
              try simp only [Act.put, List.setIfInBounds_toArray, List.set_cons_zero, List.set_cons_succ]
              repeat (first
                | (refine CalmR.calm_skip (by rfl) ?_; try simp only [Act.put, List.setIfInBounds_toArray, List.set_cons_zero, List.set_cons_succ])
                | (refine CalmR.calm_plain (by rfl) (by rfl) ?_; apply Exists.intro; refine ⟨fun wc hC hD => ?_, ?_⟩; (focus (clear hD; obtain ⟨k0, k1⟩ := box2 hC.1.box; clear hC; go_simp; first | done | with_reducible rfl)); try simp only [Act.put, List.setIfInBounds_toArray, List.set_cons_zero, List.set_cons_succ]))
              refine CalmR.calm_end ?_
              intro w7 hL7 hF7
              have hI := hF7 3
              simp [CalmR.upd, CalmR.noF] at hI
              clear hF7
              simp only [List.drop_succ_cons, List.drop_zero]
              obtain ⟨d3, D1, D2, q1, q2, e, hR3, ho⟩ := hI
              simp only [Value.agg.injEq, Array.mk.injEq, List.cons.injEq, and_true] at e
              obtain ⟨rfl, rfl⟩ := e
              have HD := Lib.hid hL7.at_
              have HO7 := Lib.hid ho; have HR3 := Lib.hid hR3
              clear hL7 ho hR3 HA
              obtain ⟨k0, k1⟩ := box2 HD.out.box
              obtain ⟨g0, g1, _, _⟩ := box_frozen HD.out.box
              go_wp2
              go_roundw
              case rel => exact ⟨k - 1, d3, D1, D2, q1, q2, by go_num, by omega, HR3.out, HD.out.put HO7.out⟩
              case measure => simp [intOf]; omega
        · go_upto_region 7 with fail
          go_cut [5] from 27 to 34 (fun y wx => Aput w wx S w3.heap.size cv len (.slice A1 d.S.length c1) (.slice A2 d.P.length c2) d y)
          case first =>
            go_upto_region 7 with fail
            refine wp_region_draw_tail (L := [(yb, .cells #[.slice B1 o.dk.S.length e1, .slice B2 o.dk.P.length e2, .string o.text, .int .i64 o.gen, .int .i64 o.code] 31 (0, 0))]) [(3, (fun u => ∃ r : Int, u = .int .i64 r ∧ 0 ≤ r ∧ r < 90), (fun _ _ => True)), (4, (fun u => ∃ l : List UInt8, u = .string ⟨l.toArray⟩ ∧ (ByteArray.mk l.toArray).size ≤ 1048576), (fun _ _ => True)), (6, (fun u => ∃ r : Int, u = .int .i64 r ∧ 0 ≤ r ∧ r < 6), (fun _ _ => True)), (7, IsAo, AoIn w)] 8 (by kernel_rfl) (by kernel_rfl) (by
              intro q hq v
              simp only [List.mem_cons, List.not_mem_nil, or_false] at hq
              rcases hq with rfl | rfl | rfl | rfl
              · exact fun _ _ _ h => h
              · exact fun _ _ _ h => h
              · exact fun _ _ _ h => h
              · exact AoIn.mono HSL.out v) ⟨HA.out, fun q hq => by rw [List.mem_singleton.1 hq]; exact ⟨by have := HA.out.far; simp only; omega, HY.out⟩⟩ ?_
            repeat (first
              | (refine CalmR.calm_skip (by rfl) ?_; try simp only [Act.put, List.setIfInBounds_toArray, List.set_cons_zero, List.set_cons_succ])
              | (refine CalmR.calm_plain (by rfl) (by rfl) ?_; apply Exists.intro; refine ⟨fun wc hC hD => ?_, ?_⟩; (focus (clear hD; obtain ⟨k0, k1⟩ := box2 hC.1.box; clear hC; go_simp; first | done | with_reducible rfl)); try simp only [Act.put, List.setIfInBounds_toArray, List.set_cons_zero, List.set_cons_succ]))
            refine CalmR.calm_call _ _ (by rfl) (by rfl) ?_ ?_
            focus
              apply Exists.intro
              apply Exists.intro
              refine ⟨fun wc hC hD => ?_, fun wc hC hD => ?_⟩
              focus (clear hD; obtain ⟨k0, k1⟩ := box2 hC.1.box; clear hC; go_simp; first | done | with_reducible exact ⟨rfl, rfl⟩)
              clear hD
              with_reducible refine (draw_n S cv len 90 _ hC.1.src (HC.out.on hC.1.grown) (by omega) (by omega)).mono ?_
              rintro e wx ⟨r, rfl, r0, r1, hg, hs⟩
              exact ⟨_, rfl, Rd.of_draw hg hs, ⟨r, rfl, r0, r1⟩, trivial⟩
            rintro _ ⟨r90, rfl, hr0, hr1⟩
            try simp only [Act.put, List.setIfInBounds_toArray, List.set_cons_zero, List.set_cons_succ]
            repeat (first
              | (refine CalmR.calm_skip (by rfl) ?_; try simp only [Act.put, List.setIfInBounds_toArray, List.set_cons_zero, List.set_cons_succ])
              | (refine CalmR.calm_plain (by rfl) (by rfl) ?_; apply Exists.intro; refine ⟨fun wc hC hD => ?_, ?_⟩; (focus (clear hD; obtain ⟨k0, k1⟩ := box2 hC.1.box; clear hC; go_simp; first | done | with_reducible rfl)); try simp only [Act.put, List.setIfInBounds_toArray, List.set_cons_zero, List.set_cons_succ]))
            refine CalmR.calm_call _ _ (by rfl) (by rfl) ?_ ?_
            focus
              apply Exists.intro
              apply Exists.intro
              refine ⟨fun wc hC hD => ?_, fun wc hC hD => ?_⟩
              focus (clear hD; obtain ⟨k0, k1⟩ := box2 hC.1.box; clear hC; go_simp; first | done | with_reducible exact ⟨rfl, rfl⟩)
              clear hD
              with_reducible refine (draw_bytes S cv len _ _ hC.1.src (HC.out.on hC.1.grown) (by omega)).mono ?_
              rintro e wx ⟨l, rfl, hl, hg, hs⟩
              exact ⟨_, rfl, Rd.of_draw hg hs, ⟨l, rfl, by rw [str_size, hl]; omega⟩, trivial⟩
            rintro _ ⟨l, rfl, hl⟩
            try simp only [Act.put, List.setIfInBounds_toArray, List.set_cons_zero, List.set_cons_succ]
            repeat (first
              | (refine CalmR.calm_skip (by rfl) ?_; try simp only [Act.put, List.setIfInBounds_toArray, List.set_cons_zero, List.set_cons_succ])
              | (refine CalmR.calm_plain (by rfl) (by rfl) ?_; apply Exists.intro; refine ⟨fun wc hC hD => ?_, ?_⟩; (focus (clear hD; obtain ⟨k0, k1⟩ := box2 hC.1.box; clear hC; go_simp; first | done | with_reducible rfl)); try simp only [Act.put, List.setIfInBounds_toArray, List.set_cons_zero, List.set_cons_succ]))
            refine CalmR.calm_call _ _ (by rfl) (by rfl) ?_ ?_
            focus
              apply Exists.intro
              apply Exists.intro
              refine ⟨fun wc hC hD => ?_, fun wc hC hD => ?_⟩
              focus (clear hD; obtain ⟨k0, k1⟩ := box2 hC.1.box; clear hC; go_simp; first | done | with_reducible exact ⟨rfl, rfl⟩)
              clear hD
              with_reducible refine (draw_n S cv len 6 _ hC.1.src (HC.out.on hC.1.grown) (by omega) (by omega)).mono ?_
              rintro e wx ⟨r, rfl, r0, r1, hg, hs⟩
              exact ⟨_, rfl, Rd.of_draw hg hs, ⟨r, rfl, r0, r1⟩, trivial⟩
            rintro _ ⟨r6, rfl, hr0, hr1⟩
            try simp only [Act.put, List.setIfInBounds_toArray, List.set_cons_zero, List.set_cons_succ]
            repeat (first
              | (refine CalmR.calm_skip (by rfl) ?_; try simp only [Act.put, List.setIfInBounds_toArray, List.set_cons_zero, List.set_cons_succ])
              | (refine CalmR.calm_plain (by rfl) (by rfl) ?_; apply Exists.intro; refine ⟨fun wc hC hD => ?_, ?_⟩; (focus (clear hD; obtain ⟨k0, k1⟩ := box2 hC.1.box; clear hC; go_simp; first | done | with_reducible rfl)); try simp only [Act.put, List.setIfInBounds_toArray, List.set_cons_zero, List.set_cons_succ]))
            refine CalmR.calm_call _ _ (by rfl) (by rfl) ?_ ?_
            focus
              apply Exists.intro
              apply Exists.intro
              refine ⟨fun wc hC hD => ?_, fun wc hC hD => ?_⟩
              focus (clear hD; obtain ⟨k0, k1⟩ := box2 hC.1.box; clear hC; go_simp; first | done | with_reducible exact ⟨rfl, rfl⟩)
              clear hD
              with_reducible refine (spec_aput _ d _ _ _ hC.1.own.at_ (right_small HR.out) hl).mono ?_
              intro e wx h
              obtain ⟨u, rfl, hb, hu, hi⟩ := ao_in (w := w) (by have := block_lt hC.1.box; have := hC.1.far; omega) h
              exact ⟨u, rfl, Rd.of_below hb, hu, hi⟩
            rintro _ ⟨ps, pp, pt, pg, pc, rfl⟩
            try simp only [Act.put, List.setIfInBounds_toArray, List.set_cons_zero, List.set_cons_succ]
            repeat (first
              | (refine CalmR.calm_skip (by rfl) ?_; try simp only [Act.put, List.setIfInBounds_toArray, List.set_cons_zero, List.set_cons_succ])
              | (refine CalmR.calm_plain (by rfl) (by rfl) ?_; apply Exists.intro; refine ⟨fun wc hC hD => ?_, ?_⟩; (focus (clear hD; obtain ⟨k0, k1⟩ := box2 hC.1.box; clear hC; go_simp; first | done | with_reducible rfl)); try simp only [Act.put, List.setIfInBounds_toArray, List.set_cons_zero, List.set_cons_succ]))
            refine CalmR.calm_end ?_
            intro w7 hL7 hF7
            have hI := hF7 7
            simp [CalmR.upd, CalmR.noF] at hI
            clear hF7
            simp only [List.drop_succ_cons, List.drop_zero]
            have HY7 := Lib.hid (hL7.blk _ List.mem_cons_self).2
            clear HY HO HGO HA
            obtain ⟨o2, D1, D2, q1, q2, e, hgo, ho⟩ := hI
            simp only [Value.agg.injEq, Array.mk.injEq, List.cons.injEq, and_true, Value.string.injEq, Value.int.injEq, true_and] at e
            obtain ⟨rfl, rfl, rfl, rfl, rfl⟩ := e
            have HD := Lib.hid hL7.at_
            have HO := Lib.hid ho; have HGO := Lib.hid hgo
            clear hL7 ho hgo hr0 hr1 hl
            obtain ⟨p0, p1, p2, p3, p4⟩ := box5 HY7.out
            obtain ⟨m0, m1, m2, m3⟩ := box_frozen HY7.out
            have m4 : w7.frozen? ⟨yb, 4, none⟩ = false := block_free HY7.out 4
            go_wp2_with fail
            go_meet
            exact aput_set HD.out HY7.out hyb HGO.out HO.out
          case rest =>
            clear HA HY HO HGO hyb
            obtain ⟨yb, o, B1, B2, e1, e2, rfl, hyb, hgo, hy, ho, hA⟩ := hcut
            have HA := Lib.hid hA; have HY := Lib.hid hy; have HO := Lib.hid ho; have HGO := Lib.hid hgo
            clear hA hy ho hgo
            obtain ⟨dk, tx, gn, cd⟩ := o
            simp only at HGO HY HO
            obtain ⟨y0, y1, y2, y3, y4⟩ := box5 HY.out
            obtain ⟨k0, k1⟩ := box2 HA.out.box
            obtain ⟨g0, g1, _, _⟩ := box_frozen HA.out.box
            by_cases hc : cd = 0
            · subst hc
              have HR1 := Lib.hid (HGO.out rfl)
              replace HA := Lib.hid (HA.out.put HO.out)
              clear HO HY HGO
              go_wp2_with fail
              refine (draw_one S cv len 5 _ HA.out.src (HC.out.on HA.out.grown) (by omega)).mono ?_
              rintro e wg ⟨b5, rfl, hg, hs⟩
              replace HA := Lib.hid (HA.out.by_ hg hs)
              clear hg hs k0 k1 g0 g1 y0 y1 y2 y3 y4
              cases b5
              · go_wp2
                go_roundw
                case rel => exact ⟨k - 1, dk, B1, B2, e1, e2, by go_num, by omega, HR1.out, HA.out⟩
                case measure => simp [intOf]; omega
              · go_upto_region 11 with fail
                refine wp_region_draw_tail (L := []) [(2, (fun _ => True), KeepIn w), (3, IsDk, DkIn w)] 4 (by kernel_rfl) (by kernel_rfl) (by
                  intro q hq v
                  simp only [List.mem_cons, List.not_mem_nil, or_false] at hq
                  rcases hq with rfl | rfl
                  · exact KeepIn.mono HSL.out v
                  · exact DkIn.mono HSL.out v) ⟨HA.out, by simp⟩ ?_
                repeat (first
                  | (refine CalmR.calm_skip (by rfl) ?_; try simp only [Act.put, List.setIfInBounds_toArray, List.set_cons_zero, List.set_cons_succ])
                  | (refine CalmR.calm_plain (by rfl) (by rfl) ?_; apply Exists.intro; refine ⟨fun wc hC hD => ?_, ?_⟩; (focus (clear hD; obtain ⟨k0, k1⟩ := box2 hC.1.box; clear hC; go_simp; first | done | with_reducible rfl)); try simp only [Act.put, List.setIfInBounds_toArray, List.set_cons_zero, List.set_cons_succ]))
                refine CalmR.calm_call _ _ (by rfl) (by rfl) ?_ ?_
                focus
                  apply Exists.intro
                  apply Exists.intro
                  refine ⟨fun wc hC hD => ?_, fun wc hC hD => ?_⟩
                  focus (clear hD; obtain ⟨k0, k1⟩ := box2 hC.1.box; clear hC; go_simp; first | done | with_reducible exact ⟨rfl, rfl⟩)
                  clear hD
                  with_reducible refine (draw_keep S cv len _ hC.1.src (HC.out.on hC.1.grown)).mono ?_
                  rintro e wx ⟨u, l, rfl, ho, hl, hg, hs⟩
                  exact ⟨u, rfl, Rd.of_draw hg hs, trivial, l, Ow.base ho (by have := block_lt hC.1.box; have := hC.1.far; omega), hl⟩
                rintro vk -
                try simp only [Act.put, List.setIfInBounds_toArray, List.set_cons_zero, List.set_cons_succ]
                repeat (first
                  | (refine CalmR.calm_skip (by rfl) ?_; try simp only [Act.put, List.setIfInBounds_toArray, List.set_cons_zero, List.set_cons_succ])
                  | (refine CalmR.calm_plain (by rfl) (by rfl) ?_; apply Exists.intro; refine ⟨fun wc hC hD => ?_, ?_⟩; (focus (clear hD; obtain ⟨k0, k1⟩ := box2 hC.1.box; clear hC; go_simp; first | done | with_reducible rfl)); try simp only [Act.put, List.setIfInBounds_toArray, List.set_cons_zero, List.set_cons_succ]))
                refine CalmR.calm_call _ _ (by rfl) (by rfl) ?_ ?_
                focus
                  apply Exists.intro
                  apply Exists.intro
                  refine ⟨fun wc hC hD => ?_, fun wc hC hD => ?_⟩
                  focus (clear hD; obtain ⟨k0, k1⟩ := box2 hC.1.box; clear hC; go_simp; first | done | with_reducible exact ⟨rfl, rfl⟩)
                  have hk := CalmR.Deps.get hD 2 (by kernel_rfl)
                  simp [CalmR.upd, CalmR.noF] at hk
                  clear hD
                  obtain ⟨l, hk, hl⟩ := hk
                  with_reducible refine (spec_crash _ vk dk l _ hC.1.own.at_ (Ow.sl hk encI_len) (right_small HR1.out) (by omega)).mono ?_
                  intro e wx h
                  obtain ⟨u, rfl, hb, hu, hi⟩ := dk_in (w := w) HR1.out hl (by have := block_lt hC.1.box; have := hC.1.far; omega) h
                  exact ⟨u, rfl, Rd.of_below hb, hu, hi⟩
                rintro _ ⟨ps, pp, rfl⟩
                try simp only [Act.put, List.setIfInBounds_toArray, List.set_cons_zero, List.set_cons_succ]
                repeat (first
                  | (refine CalmR.calm_skip (by rfl) ?_; try simp only [Act.put, List.setIfInBounds_toArray, List.set_cons_zero, List.set_cons_succ])
                  | (refine CalmR.calm_plain (by rfl) (by rfl) ?_; apply Exists.intro; refine ⟨fun wc hC hD => ?_, ?_⟩; (focus (clear hD; obtain ⟨k0, k1⟩ := box2 hC.1.box; clear hC; go_simp; first | done | with_reducible rfl)); try simp only [Act.put, List.setIfInBounds_toArray, List.set_cons_zero, List.set_cons_succ]))
                refine CalmR.calm_end ?_
                intro w7 hL7 hF7
                have hI := hF7 3
                simp [CalmR.upd, CalmR.noF] at hI
                clear hF7
                simp only [List.drop_succ_cons, List.drop_zero]
                obtain ⟨d3, D1, D2, q1, q2, e, hR3, ho⟩ := hI
                simp only [Value.agg.injEq, Array.mk.injEq, List.cons.injEq, and_true] at e
                obtain ⟨rfl, rfl⟩ := e
                have HD := Lib.hid hL7.at_
                have HO7 := Lib.hid ho; have HR3 := Lib.hid hR3
                clear hL7 ho hR3 HA
                obtain ⟨k0, k1⟩ := box2 HD.out.box
                obtain ⟨g0, g1, _, _⟩ := box_frozen HD.out.box
                go_wp2
                go_roundw
                case rel => exact ⟨k - 1, d3, D1, D2, q1, q2, by go_num, by omega, HR3.out, HD.out.put HO7.out⟩
                case measure => simp [intOf]; omega

            · clear HO HGO HY
              go_wp2_with fail
              refine (draw_one S cv len 5 _ HA.out.src (HC.out.on HA.out.grown) (by omega)).mono ?_
              rintro e wg ⟨b5, rfl, hg, hs⟩
              replace HA := Lib.hid (HA.out.by_ hg hs)
              clear hg hs k0 k1 g0 g1 y0 y1 y2 y3 y4
              cases b5
              · go_wp2
                go_roundw
                case rel => exact ⟨k - 1, d, A1, A2, c1, c2, by go_num, by omega, HR.out, HA.out⟩
                case measure => simp [intOf]; omega
              · go_upto_region 11 with fail
                refine wp_region_draw_tail (L := []) [(2, (fun _ => True), KeepIn w), (3, IsDk, DkIn w)] 4 (by kernel_rfl) (by kernel_rfl) (by
                  intro q hq v
                  simp only [List.mem_cons, List.not_mem_nil, or_false] at hq
                  rcases hq with rfl | rfl
                  · exact KeepIn.mono HSL.out v
                  · exact DkIn.mono HSL.out v) ⟨HA.out, by simp⟩ ?_
                repeat (first
                  | (refine CalmR.calm_skip (by rfl) ?_; try simp only [Act.put, List.setIfInBounds_toArray, List.set_cons_zero, List.set_cons_succ])
                  | (refine CalmR.calm_plain (by rfl) (by rfl) ?_; apply Exists.intro; refine ⟨fun wc hC hD => ?_, ?_⟩; (focus (clear hD; obtain ⟨k0, k1⟩ := box2 hC.1.box; clear hC; go_simp; first | done | with_reducible rfl)); try simp only [Act.put, List.setIfInBounds_toArray, List.set_cons_zero, List.set_cons_succ]))
                refine CalmR.calm_call _ _ (by rfl) (by rfl) ?_ ?_
                focus
                  apply Exists.intro
                  apply Exists.intro
                  refine ⟨fun wc hC hD => ?_, fun wc hC hD => ?_⟩
                  focus (clear hD; obtain ⟨k0, k1⟩ := box2 hC.1.box; clear hC; go_simp; first | done | with_reducible exact ⟨rfl, rfl⟩)
                  clear hD
                  with_reducible refine (draw_keep S cv len _ hC.1.src (HC.out.on hC.1.grown)).mono ?_
                  rintro e wx ⟨u, l, rfl, ho, hl, hg, hs⟩
                  exact ⟨u, rfl, Rd.of_draw hg hs, trivial, l, Ow.base ho (by have := block_lt hC.1.box; have := hC.1.far; omega), hl⟩
                rintro vk -
                try simp only [Act.put, List.setIfInBounds_toArray, List.set_cons_zero, List.set_cons_succ]
                repeat (first
                  | (refine CalmR.calm_skip (by rfl) ?_; try simp only [Act.put, List.setIfInBounds_toArray, List.set_cons_zero, List.set_cons_succ])
                  | (refine CalmR.calm_plain (by rfl) (by rfl) ?_; apply Exists.intro; refine ⟨fun wc hC hD => ?_, ?_⟩; (focus (clear hD; obtain ⟨k0, k1⟩ := box2 hC.1.box; clear hC; go_simp; first | done | with_reducible rfl)); try simp only [Act.put, List.setIfInBounds_toArray, List.set_cons_zero, List.set_cons_succ]))
                refine CalmR.calm_call _ _ (by rfl) (by rfl) ?_ ?_
                focus
                  apply Exists.intro
                  apply Exists.intro
                  refine ⟨fun wc hC hD => ?_, fun wc hC hD => ?_⟩
                  focus (clear hD; obtain ⟨k0, k1⟩ := box2 hC.1.box; clear hC; go_simp; first | done | with_reducible exact ⟨rfl, rfl⟩)
                  have hk := CalmR.Deps.get hD 2 (by kernel_rfl)
                  simp [CalmR.upd, CalmR.noF] at hk
                  clear hD
                  obtain ⟨l, hk, hl⟩ := hk
                  with_reducible refine (spec_crash _ vk d l _ hC.1.own.at_ (Ow.sl hk encI_len) (right_small HR.out) (by omega)).mono ?_
                  intro e wx h
                  obtain ⟨u, rfl, hb, hu, hi⟩ := dk_in (w := w) HR.out hl (by have := block_lt hC.1.box; have := hC.1.far; omega) h
                  exact ⟨u, rfl, Rd.of_below hb, hu, hi⟩
                rintro _ ⟨ps, pp, rfl⟩
                try simp only [Act.put, List.setIfInBounds_toArray, List.set_cons_zero, List.set_cons_succ]
                repeat (first
                  | (refine CalmR.calm_skip (by rfl) ?_; try simp only [Act.put, List.setIfInBounds_toArray, List.set_cons_zero, List.set_cons_succ])
                  | (refine CalmR.calm_plain (by rfl) (by rfl) ?_; apply Exists.intro; refine ⟨fun wc hC hD => ?_, ?_⟩; (focus (clear hD; obtain ⟨k0, k1⟩ := box2 hC.1.box; clear hC; go_simp; first | done | with_reducible rfl)); try simp only [Act.put, List.setIfInBounds_toArray, List.set_cons_zero, List.set_cons_succ]))
                refine CalmR.calm_end ?_
                intro w7 hL7 hF7
                have hI := hF7 3
                simp [CalmR.upd, CalmR.noF] at hI
                clear hF7
                simp only [List.drop_succ_cons, List.drop_zero]
                obtain ⟨d3, D1, D2, q1, q2, e, hR3, ho⟩ := hI
                simp only [Value.agg.injEq, Array.mk.injEq, List.cons.injEq, and_true] at e
                obtain ⟨rfl, rfl⟩ := e
                have HD := Lib.hid hL7.at_
                have HO7 := Lib.hid ho; have HR3 := Lib.hid hR3
                clear hL7 ho hR3 HA
                obtain ⟨k0, k1⟩ := box2 HD.out.box
                obtain ⟨g0, g1, _, _⟩ := box_frozen HD.out.box
                go_wp2
                go_roundw
                case rel => exact ⟨k - 1, d3, D1, D2, q1, q2, by go_num, by omega, HR3.out, HD.out.put HO7.out⟩
                case measure => simp [intOf]; omega
    · have hk0 : k = 0 := by omega
      subst hk0
      clear hlt hk
      obtain ⟨k0, k1⟩ := box2 HA.out.box
      go_wp2_with fail
      refine (draw_one S cv len 12 _ HA.out.src (HC.out.on HA.out.grown) (by omega)).mono ?_
      rintro e wf ⟨b12, rfl, hg, hs⟩
      replace HA := Lib.hid (HA.out.by_ hg hs)
      clear hg hs k0 k1
      cases b12
      · obtain ⟨k0, k1⟩ := box2 HA.out.box
        go_wp2_with fail
        refine (draw_one S cv len 20 _ HA.out.src (HC.out.on HA.out.grown) (by omega)).mono ?_
        rintro e wl ⟨b20, rfl, hg, hs⟩
        replace HA := Lib.hid (HA.out.by_ hg hs)
        clear hg hs k0 k1
        cases b20
        · obtain ⟨k0, k1⟩ := box2 HA.out.box
          obtain ⟨z0, z1⟩ := box2 HA.out.res
          obtain ⟨g0, g1, _, _⟩ := box_frozen HA.out.res
          go_wp2
          refine bodyPost_ret (v := .agg #[.slice A1 d.S.length c1, .slice A2 d.P.length c2]) (by simp [results, Tryz.results30, go_sem, z0, z1]) rfl ?_
          exact HA.out.done (right_drawn HR.out)
        · go_wp2_with fail
          refine (draw_disk S cv len _ HA.out.src (HC.out.on HA.out.grown)).mono ?_
          rintro e wn ⟨D1, q1, D2, q2, d2, rfl, ho, hd, hg, hs⟩
          have hbz : w.heap.size + 1 ≤ wl.heap.size := by have := block_lt HA.out.box; have := HA.out.far; omega
          have HE := Lib.hid ((HA.out.by_ hg hs).done_else ho hbz hd)
          replace HA := Lib.hid (HA.out.by_ hg hs)
          clear hg hs ho hd
          obtain ⟨z0, z1⟩ := box2 HA.out.res
          obtain ⟨g0, g1, _, _⟩ := box_frozen HA.out.res
          go_wp2
          refine bodyPost_ret (v := .agg #[.slice D1 d2.S.length q1, .slice D2 d2.P.length q2]) (by simp [results, Tryz.results30, go_sem, z0, z1]) rfl ?_
          exact HE.out
      · obtain ⟨k0, k1⟩ := box2 HA.out.box
        have hsl : 0 < d.S.length := HR.out.1
        have hsm : d.S.length ≤ 64 := HR.out.2.1
        go_wp2_with fail
        refine (draw_below S cv len d.S.length _ HA.out.src (HC.out.on HA.out.grown) (by omega) (by omega)).mono ?_
        rintro e wg ⟨k, rfl, hk, hg, hs⟩
        replace HA := Lib.hid (HA.out.by_ hg hs)
        clear hg hs k0 k1
        obtain ⟨g, rfl, hg1, hg2⟩ := own_form HA.out.ownS hsl
        have hk' : (k : Int) < (d.S.length : Int) := by omega
        have hsk : d.S[k].size ≤ 64 := HR.out.2.2.2.1 _ (List.getElem_mem hk)
        go_upto_region 14 with fail
        refine wp_region_draw_tail (L := []) [(9, (fun u => ∃ t : ByteArray, u = .string t ∧ t.size ≤ 65), (fun _ _ => True))] 10 (by kernel_rfl) (by kernel_rfl) (by
          intro q hq v
          simp only [List.mem_cons, List.not_mem_nil, or_false] at hq
          rcases hq with rfl
          · exact fun _ _ _ h => h) ⟨HA.out, by simp⟩ ?_
        repeat (first
          | (refine CalmR.calm_skip (by rfl) ?_; try simp only [Act.put, List.setIfInBounds_toArray, List.set_cons_zero, List.set_cons_succ])
          | (refine CalmR.calm_plain (by rfl) (by rfl) ?_; apply Exists.intro; refine ⟨fun wc hC hD => ?_, ?_⟩; (focus (clear hD; obtain ⟨k0, k1⟩ := box2 hC.1.box; obtain ⟨v0, v1⟩ := hC.1.cellS k hk; clear hC; go_simp; first | done | with_reducible rfl)); try simp only [Act.put, List.setIfInBounds_toArray, List.set_cons_zero, List.set_cons_succ]))
        refine CalmR.calm_call _ _ (by rfl) (by rfl) ?_ ?_
        focus
          apply Exists.intro
          apply Exists.intro
          refine ⟨fun wc hC hD => ?_, fun wc hC hD => ?_⟩
          focus (clear hD; obtain ⟨k0, k1⟩ := box2 hC.1.box; obtain ⟨v0, v1⟩ := hC.1.cellS k hk; clear hC; go_simp; first | done | with_reducible exact ⟨rfl, rfl⟩)
          clear hD
          with_reducible refine (draw_spoil S cv len d.S[k] _ hC.1.src (HC.out.on hC.1.grown) (by omega)).mono ?_
          rintro e wx ⟨t, rfl, ht, hg, hs⟩
          exact ⟨_, rfl, Rd.of_draw hg hs, ⟨t, rfl, by omega⟩, trivial⟩
        rintro _ ⟨t, rfl, ht⟩
        try simp only [Act.put, List.setIfInBounds_toArray, List.set_cons_zero, List.set_cons_succ]
        repeat (first
          | (refine CalmR.calm_skip (by rfl) ?_; try simp only [Act.put, List.setIfInBounds_toArray, List.set_cons_zero, List.set_cons_succ])
          | (refine CalmR.calm_plain (by rfl) (by rfl) ?_; apply Exists.intro; refine ⟨fun wc hC hD => ?_, ?_⟩; (focus (clear hD; obtain ⟨k0, k1⟩ := box2 hC.1.box; obtain ⟨v0, v1⟩ := hC.1.cellS k hk; clear hC; go_simp; first | done | with_reducible rfl)); try simp only [Act.put, List.setIfInBounds_toArray, List.set_cons_zero, List.set_cons_succ]))
        refine CalmR.calm_end ?_
        intro w7 hL7 hF7
        clear hF7
        simp only [List.drop_succ_cons, List.drop_zero]
        have HD := Lib.hid hL7.at_
        clear hL7 HA
        obtain ⟨k0, k1⟩ := box2 HD.out.box
        obtain ⟨v0, v1⟩ := HD.out.cellS k hk
        have HA := Lib.hid (HD.out.setK (k := k) rfl t)
        go_upto_region 15 with fail
        clear k0 k1 v0 v1 HD
        generalize w7.setCell ⟨g, k, none⟩ (.string t) = w8 at *
        obtain ⟨k0, k1⟩ := box2 HA.out.box
        obtain ⟨v0, v1⟩ := HA.out.cellS k (by simpa using hk)
        simp only [List.getElem_set_self] at v0
        by_cases h64 : 64 < t.size
        · have h64' : (64 : Int) < (t.size : Int) := by omega
          obtain ⟨t4, ht4, hs4⟩ := text_to t 64 (by omega)
          replace hs4 : ∀ W : World, (Instr.slice 9 (.string t) none (some (.int .i64 64)) none).run Tryz.prog W = .ok (.string t4) W := fun W => hs4 W
          go_upto_region 16 with fail
          go_region
          have hA2 := (HA.out.setK (k := k) (by simp) t4).drew
          rw [List.set_set] at hA2
          replace HA := Lib.hid hA2
          have hdr := right_drawn (set_good HR.out k t4 (by omega))
          clear hA2 k0 k1 v0 v1
          generalize (w8.setCell ⟨g, k, none⟩ (.string t4)).drew = w9 at *
          obtain ⟨k0, k1⟩ := box2 HA.out.box
          go_wp2_with fail
          refine (draw_one S cv len 20 _ HA.out.src (HC.out.on HA.out.grown) (by omega)).mono ?_
          rintro e wl ⟨b20, rfl, hg, hs⟩
          replace HA := Lib.hid (HA.out.by_ hg hs)
          clear hg hs k0 k1
          cases b20
          · obtain ⟨k0, k1⟩ := box2 HA.out.box
            obtain ⟨z0, z1⟩ := box2 HA.out.res
            obtain ⟨g0, g1, _, _⟩ := box_frozen HA.out.res
            go_wp2
            refine bodyPost_ret (v := .agg #[.slice (some ⟨g, 0, none⟩) d.S.length c1, .slice A2 d.P.length c2]) (by simp [results, Tryz.results30, go_sem, z0, z1]) rfl ?_
            exact HA.out.done' (by simp) rfl hdr
          · go_wp2_with fail
            refine (draw_disk S cv len _ HA.out.src (HC.out.on HA.out.grown)).mono ?_
            rintro e wn ⟨D1, q1, D2, q2, d2, rfl, ho, hd, hg, hs⟩
            have hbz : w.heap.size + 1 ≤ wl.heap.size := by have := block_lt HA.out.box; have := HA.out.far; omega
            have HE := Lib.hid ((HA.out.by_ hg hs).done_else ho hbz hd)
            replace HA := Lib.hid (HA.out.by_ hg hs)
            clear hg hs ho hd
            obtain ⟨z0, z1⟩ := box2 HA.out.res
            obtain ⟨g0, g1, _, _⟩ := box_frozen HA.out.res
            go_wp2
            refine bodyPost_ret (v := .agg #[.slice D1 d2.S.length q1, .slice D2 d2.P.length q2]) (by simp [results, Tryz.results30, go_sem, z0, z1]) rfl ?_
            exact HE.out
        · have h64' : ¬ (64 : Int) < (t.size : Int) := by omega
          have hdr := right_drawn (set_good HR.out k t (by omega))
          go_wp2_with fail
          refine (draw_one S cv len 20 _ HA.out.src (HC.out.on HA.out.grown) (by omega)).mono ?_
          rintro e wl ⟨b20, rfl, hg, hs⟩
          replace HA := Lib.hid (HA.out.by_ hg hs)
          clear hg hs k0 k1
          cases b20
          · obtain ⟨k0, k1⟩ := box2 HA.out.box
            obtain ⟨z0, z1⟩ := box2 HA.out.res
            obtain ⟨g0, g1, _, _⟩ := box_frozen HA.out.res
            go_wp2
            refine bodyPost_ret (v := .agg #[.slice (some ⟨g, 0, none⟩) d.S.length c1, .slice A2 d.P.length c2]) (by simp [results, Tryz.results30, go_sem, z0, z1]) rfl ?_
            exact HA.out.done' (by simp) rfl hdr
          · go_wp2_with fail
            refine (draw_disk S cv len _ HA.out.src (HC.out.on HA.out.grown)).mono ?_
            rintro e wn ⟨D1, q1, D2, q2, d2, rfl, ho, hd, hg, hs⟩
            have hbz : w.heap.size + 1 ≤ wl.heap.size := by have := block_lt HA.out.box; have := HA.out.far; omega
            have HE := Lib.hid ((HA.out.by_ hg hs).done_else ho hbz hd)
            replace HA := Lib.hid (HA.out.by_ hg hs)
            clear hg hs ho hd
            obtain ⟨z0, z1⟩ := box2 HA.out.res
            obtain ⟨g0, g1, _, _⟩ := box_frozen HA.out.res
            go_wp2
            refine bodyPost_ret (v := .agg #[.slice D1 d2.S.length q1, .slice D2 d2.P.length q2]) (by simp [results, Tryz.results30, go_sem, z0, z1]) rfl ?_
            exact HE.out

end Go.Proofs.YthchlfllcnlmjaaGreatDoor

/-! The draws of areas: DrawAreaFormat, DrawAreaRead. -/
namespace Go.Proofs.YthchlfllcnlmjaaGreatDoor
open Go.ChangeShapes Go.WideShapes Go.ChangeAt Go.RowKit

/-- A drawn disk. -/
def OneDisk (w : World) (e : Ending) (w' : World) : Prop :=
  ∃ A1 c1 A2 c2 d, e = .returned (.agg #[.slice A1 d.S.length c1, .slice A2 d.P.length c2]) ∧ Drawn d ∧ DkOw w' w.heap.size (.agg #[.slice A1 d.S.length c1, .slice A2 d.P.length c2]) d ∧ Below w.heap.size w w'
theorem one_done {w W : World} {base : Nat} {A1 A2 : Option Addr} {c1 c2 : Nat} {d : Dk} (hb : Below w.heap.size w W) (ho : DkOw W base (.agg #[.slice A1 d.S.length c1, .slice A2 d.P.length c2]) d) (hz : w.heap.size + 1 ≤ base) (hd : Drawn d) (y0 y1 : Value) :
    OneDisk w (.returned (.agg #[.slice A1 d.S.length c1, .slice A2 d.P.length c2])) ((W.setCell ⟨w.heap.size, 0, none⟩ y0).setCell ⟨w.heap.size, 1, none⟩ y1) :=
  ⟨A1, c1, A2, c2, d, rfl, hd, ((ho.far (by simp only; omega) _).far (by simp only; omega) _).base (by omega), Below.setCell (Below.setCell hb (by simp only; omega) _) (by simp only; omega) _⟩

/-- Where a draw stands ahead of its disk: the source behind the result's box. -/
structure Fr (w W : World) (cv : Value) (len : Nat) : Prop where
  bel : Below w.heap.size w W
  src : Src W (w.heap.size + 1) cv len
  code : Code W (w.heap.size + 1) cv len
  res : W.heap[w.heap.size]? = some (.cells #[.slice none 0 0, .slice none 0 0] 26 (0, 0))
theorem Fr.size {w W : World} {cv : Value} {len : Nat} (h : Fr w W cv len) : w.heap.size + 1 < W.heap.size := h.src.lt
theorem Fr.by_ {w W W' : World} {cv : Value} {len : Nat} (h : Fr w W cv len) (hg : W.grownBy W' (some (w.heap.size + 1))) (hs : Src W' (w.heap.size + 1) cv len) : Fr w W' cv len :=
  ⟨h.bel.grown hg h.bel.size (fun k hk => by cases hk; omega), hs, h.code.on hg, blk_ne h.res hg (by omega)⟩
theorem fr_made {w w1 : World} {cv : Value} {len : Nat} (hb : Below (w.alloc (.cells #[.slice none 0 0, .slice none 0 0] 26)).heap.size (w.alloc (.cells #[.slice none 0 0, .slice none 0 0] 26)) w1) (hS : Src w1 (w.alloc (.cells #[.slice none 0 0, .slice none 0 0] 26)).heap.size cv len) (hC : Code w1 (w.alloc (.cells #[.slice none 0 0, .slice none 0 0] 26)).heap.size cv len) : Fr w w1 cv len := by
  have e : (w.alloc (.cells #[.slice none 0 0, .slice none 0 0] 26)).heap.size = w.heap.size + 1 := World.size_alloc _ _
  refine ⟨((Below.refl w.heap.size w).alloc (Nat.le_refl _) _).trans (hb.mono (by omega)), by rw [← e]; exact hS, by rw [← e]; exact hC, keep_blk hb (heap_alloc_new w _)⟩

set_option maxRecDepth 100000 in
set_option maxHeartbeats 2000000 in
theorem draw_arearead (cv : Value) (len : Nat) (w : World) (hC : Code w w.heap.size cv len) :
    Calls Tryz.prog 9 #[cv] w (OneDisk w) := by
  have hA0 : w.grownBy (w.alloc (.cells #[.slice none 0 0, .slice none 0 0] 26)) (some w.heap.size) := World.grownBy_alloc _ _ _
  have HC := Lib.hid ((hC.on hA0).more (B' := (w.alloc (.cells #[.slice none 0 0, .slice none 0 0] 26)).heap.size) (by simp only [World.size_alloc]; omega))
  clear hC hA0
  go_enter Tryz.func9, Tryz.ntmps9
  go_wp2_with fail
  refine (draw_source cv len _ HC.out).mono ?_
  rintro e w1 ⟨rfl, hb1, hS1, hC1⟩
  have HF := Lib.hid (fr_made hb1 hS1 hC1)
  clear hb1 hS1 hC1 HC
  have hz := HF.out.size
  simp only [World.size_alloc]
  go_wp2_with fail
  refine (draw_area _ cv len w1 HF.out.src HF.out.code).mono ?_
  rintro e w2 ⟨A1, c1, A2, c2, d, rfl, ho, hd, hg, hs⟩
  replace HF := Lib.hid (HF.out.by_ hg hs)
  have HO := Lib.hid ho; have HD := Lib.hid hd
  clear hg hs ho hd
  obtain ⟨z0, z1⟩ := box2 HF.out.res
  obtain ⟨g0, g1, _, _⟩ := box_frozen HF.out.res
  go_wp2
  refine bodyPost_ret (v := .agg #[.slice A1 d.S.length c1, .slice A2 d.P.length c2]) (by simp [results, Tryz.results9, go_sem, z0, z1]) rfl ?_
  exact one_done HF.out.bel HO.out (by omega) HD.out _ _

set_option maxRecDepth 100000 in
set_option maxHeartbeats 2000000 in
theorem draw_areaformat (cv : Value) (len : Nat) (w : World) (hC : Code w w.heap.size cv len) :
    Calls Tryz.prog 8 #[cv] w (OneDisk w) := by
  have hA0 : w.grownBy (w.alloc (.cells #[.slice none 0 0, .slice none 0 0] 26)) (some w.heap.size) := World.grownBy_alloc _ _ _
  have HC := Lib.hid ((hC.on hA0).more (B' := (w.alloc (.cells #[.slice none 0 0, .slice none 0 0] 26)).heap.size) (by simp only [World.size_alloc]; omega))
  clear hC hA0
  go_enter Tryz.func8, Tryz.ntmps8
  go_wp2_with fail
  refine (draw_source cv len _ HC.out).mono ?_
  rintro e w1 ⟨rfl, hb1, hS1, hC1⟩
  have HF := Lib.hid (fr_made hb1 hS1 hC1)
  clear hb1 hS1 hC1 HC
  simp only [World.size_alloc]
  go_wp2_with fail
  refine (draw_one _ cv len 2 w1 HF.out.src HF.out.code (by omega)).mono ?_
  rintro e w2 ⟨b, rfl, hg, hs⟩
  replace HF := Lib.hid (HF.out.by_ hg hs)
  clear hg hs
  have hz := HF.out.size
  cases b
  · go_wp2_with fail
    refine (draw_area _ cv len w2 HF.out.src HF.out.code).mono ?_
    rintro e w3 ⟨A1, c1, A2, c2, d, rfl, ho, hd, hg, hs⟩
    replace HF := Lib.hid (HF.out.by_ hg hs)
    have HO := Lib.hid ho; have HD := Lib.hid hd
    clear hg hs ho hd
    obtain ⟨z0, z1⟩ := box2 HF.out.res
    obtain ⟨g0, g1, _, _⟩ := box_frozen HF.out.res
    go_wp2
    refine bodyPost_ret (v := .agg #[.slice A1 d.S.length c1, .slice A2 d.P.length c2]) (by simp [results, Tryz.results8, go_sem, z0, z1]) rfl ?_
    exact one_done HF.out.bel HO.out (by omega) HD.out _ _
  · go_wp2_with fail
    refine (draw_disk _ cv len w2 HF.out.src HF.out.code).mono ?_
    rintro e w3 ⟨A1, c1, A2, c2, d, rfl, ho, hd, hg, hs⟩
    replace HF := Lib.hid (HF.out.by_ hg hs)
    have HO := Lib.hid ho; have HD := Lib.hid hd
    clear hg hs ho hd
    obtain ⟨z0, z1⟩ := box2 HF.out.res
    obtain ⟨g0, g1, _, _⟩ := box_frozen HF.out.res
    go_wp2
    refine bodyPost_ret (v := .agg #[.slice A1 d.S.length c1, .slice A2 d.P.length c2]) (by simp [results, Tryz.results8, go_sem, z0, z1]) rfl ?_
    exact one_done HF.out.bel HO.out (by omega) HD.out _ _

end Go.Proofs.YthchlfllcnlmjaaGreatDoor

/-! The draw of an area, a text and a number of steps: DrawAreaPut. -/
namespace Go.Proofs.YthchlfllcnlmjaaGreatDoor
open Go.ChangeShapes Go.WideShapes Go.ChangeAt Go.RowKit

/-- A drawn disk, a text, a number. -/
def DiskSteps (w : World) (e : Ending) (w' : World) : Prop :=
  ∃ A1 c1 A2 c2 d n t, e = .returned (.tuple #[.agg #[.slice A1 d.S.length c1, .slice A2 d.P.length c2], .string t, .int .i64 n]) ∧ Drawn d
    ∧ -1 ≤ n ∧ n ≤ 7 ∧ t.size ≤ 3000 ∧ DkOw w' w.heap.size (.agg #[.slice A1 d.S.length c1, .slice A2 d.P.length c2]) d ∧ Below w.heap.size w w'
theorem room_le {d : Dk} (h : Drawn d) : roomN d ≤ 2048 := by
  unfold roomN
  split
  · have := h.1
    unfold halfN
    omega
  · omega

set_option maxRecDepth 100000 in
set_option maxHeartbeats 4000000 in
theorem draw_areaput (cv : Value) (len : Nat) (w : World) (hC : Code w w.heap.size cv len) :
    Calls Tryz.prog 7 #[cv] w (DiskSteps w) := by
  have hA0 : w.grownBy (w.alloc (.cells #[.slice none 0 0, .slice none 0 0] 26)) (some w.heap.size) := World.grownBy_alloc _ _ _
  have HC := Lib.hid ((hC.on hA0).more (B' := (w.alloc (.cells #[.slice none 0 0, .slice none 0 0] 26)).heap.size) (by simp only [World.size_alloc]; omega))
  clear hC hA0
  go_enter Tryz.func7, Tryz.ntmps7
  go_wp2_with fail
  refine (draw_source cv len _ HC.out).mono ?_
  rintro e w1 ⟨rfl, hb1, hS1, hC1⟩
  simp only [World.size_alloc] at hS1 hC1 ⊢
  have HM := Lib.hid (fun w2 A1 A2 c1 c2 d ho hg hS2 => dr_made (w2 := w2) (A1 := A1) (A2 := A2) (c1 := c1) (c2 := c2) (d := d) hb1 hS1 hC1 ho hg hS2)
  have HS1 := Lib.hid hS1; have HC1 := Lib.hid hC1; clear hb1 hS1 hC1 HC
  go_wp2_with fail
  refine (draw_area _ cv len w1 HS1.out HC1.out).mono ?_
  rintro e w2 ⟨A1, c1, A2, c2, d, rfl, ho, hd, hg2, hS2⟩
  have HD := Lib.hid (HM.out w2 A1 A2 c1 c2 d ho hg2 hS2)
  have HR := Lib.hid hd
  clear hg2 hS2 ho hd HM HS1 HC1
  go_wp2_with fail
  refine (draw_n _ cv len 90 _ HD.out.src HD.out.code (by omega) (by omega)).mono ?_
  rintro e w3 ⟨r, rfl, r0, r1, hg, hs⟩
  replace HD := Lib.hid (HD.out.by_ hg hs)
  clear hg hs
  go_wp2_with fail
  refine (draw_bytes _ cv len _ _ HD.out.src HD.out.code (by omega)).mono ?_
  rintro e w4 ⟨l, rfl, hl, hg, hs⟩
  replace HD := Lib.hid (HD.out.by_ hg hs)
  clear hg hs
  go_wp2_with fail
  refine (draw_one _ cv len 8 _ HD.out.src HD.out.code (by omega)).mono ?_
  rintro e w5 ⟨b, rfl, hg, hs⟩
  replace HD := Lib.hid (HD.out.by_ hg hs)
  clear hg hs
  have hlz : (ByteArray.mk l.toArray).size ≤ 3000 := by rw [str_size, hl]; omega
  have HL := Lib.hid hlz
  clear hl hlz
  obtain ⟨x0, x1⟩ := box2 HD.out.box
  have hfar := HD.out.far
  cases b
  · generalize ByteArray.mk l.toArray = t at *
    go_upto_region 6 with fail
    have HE := HD
    go_region_with (go_at_call 32; (with_reducible refine (draw_n _ cv len 8 _ HE.out.drew.src HE.out.drew.code (by omega) (by omega)).mono ?_); rintro e w6 ⟨q, rfl, q0, q1, hg3, hS3⟩; have hw1 : IntKind.i64.wrap (q - 1) = q - 1 := IntWalk.i64_in _ (by omega); have HF := Lib.hid (HE.out.drew.by_ hg3 hS3); obtain ⟨x0, x1⟩ := box2 HF.out.box; obtain ⟨z0, z1⟩ := box2 HF.out.res; obtain ⟨k0, k1, _, _⟩ := box_frozen HF.out.res)
    all_goals
      go_wp2
      refine bodyPost_ret (v := .tuple #[.agg #[.slice A1 d.S.length c1, .slice A2 d.P.length c2], .string t, .int .i64 (q - 1)]) (by simp [results, Tryz.results7, go_sem, z0, z1]) rfl ?_
      exact ⟨A1, c1, A2, c2, d, q - 1, t, rfl, HR.out, by omega, by omega, HL.out, HF.out.done _ _⟩
  · clear HL
    have hrm := room_le HR.out
    have hsm := HR.out.small
    go_wp2_with fail
    refine (spec_room _ d _ HD.out.own.at_ (by have := hsm.1; omega) (by have := hsm.2.2.1; omega)).mono ?_
    rintro e w6 ⟨rfl, hb⟩
    replace HD := Lib.hid (HD.out.by_ (grown_below hb _) (HD.out.src.below hb))
    clear hb x0 x1
    generalize roomN d = rm at *
    go_wp2_with fail
    refine (draw_n _ cv len 2 _ HD.out.src HD.out.code (by omega) (by omega)).mono ?_
    rintro e w7 ⟨r2, rfl, s0, s1, hg, hs⟩
    replace HD := Lib.hid (HD.out.by_ hg hs)
    clear hg hs
    obtain ⟨rn, rfl⟩ := Int.eq_ofNat_of_zero_le s0
    have hrn : rn ≤ 1 := by omega
    have hw2 : IntKind.i64.wrap ((rm : Int) + (rn : Int)) = (rm : Int) + (rn : Int) := IntWalk.i64_in _ (by omega)
    obtain ⟨M, hM, hmk⟩ := make_noughts (rm + rn) (by omega) ((rm : Int) + (rn : Int)) (by omega)
    have hcv := block_string (P := Tryz.prog) (heap_alloc_new w7 (.cells M 5)) 22 5 9 Tryz.underlying22 Tryz.underlying5 Tryz.underlying9 (List.replicate (rm + rn) 0) (rm + rn) (rm + rn) (by simp) hM
    generalize hl0 : List.replicate (rm + rn) (0 : UInt8) = l0 at hcv
    have hl' : (ByteArray.mk l0.toArray).size ≤ 3000 := by rw [str_size, ← hl0]; simp; omega
    have HL := Lib.hid hl'; clear hl0 hl' hM
    generalize ByteArray.mk l0.toArray = t at *
    go_upto_region 6 with fail
    clear hcv hmk
    replace HD := Lib.hid (HD.out.alloc (.cells M 5))
    generalize w7.alloc (.cells M 5) = w8 at *
    obtain ⟨x0, x1⟩ := box2 HD.out.box
    have HE := HD
    go_region_with (go_at_call 32; (with_reducible refine (draw_n _ cv len 8 _ HE.out.drew.src HE.out.drew.code (by omega) (by omega)).mono ?_); rintro e w6 ⟨q, rfl, q0, q1, hg3, hS3⟩; have hw1 : IntKind.i64.wrap (q - 1) = q - 1 := IntWalk.i64_in _ (by omega); have HF := Lib.hid (HE.out.drew.by_ hg3 hS3); obtain ⟨x0, x1⟩ := box2 HF.out.box; obtain ⟨z0, z1⟩ := box2 HF.out.res; obtain ⟨k0, k1, _, _⟩ := box_frozen HF.out.res)
    all_goals
      go_wp2
      refine bodyPost_ret (v := .tuple #[.agg #[.slice A1 d.S.length c1, .slice A2 d.P.length c2], .string t, .int .i64 (q - 1)]) (by simp [results, Tryz.results7, go_sem, z0, z1]) rfl ?_
      exact ⟨A1, c1, A2, c2, d, q - 1, t, rfl, HR.out, by omega, by omega, HL.out, HF.out.done _ _⟩

end Go.Proofs.YthchlfllcnlmjaaGreatDoor
