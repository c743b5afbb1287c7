/-
  ENGINE, eleventh part: calls of yield; what an iterator gives; loops in whose rounds yield is called.
-/
import Derived.Test.YtmiobcnccbfknaaXA
import Derived.RangeFuncSeq
import Derived.RangeFuncRecord
namespace Go.Proofs.Ytmiobcnccbfknaa
open Go.RowKit

def Cx.withE (X : Cx) (E : Ext) : Cx := { X with E := E }
theorem wpK_E {X : Cx} {E : Ext} : ∀ (k : List KI), wpK (X.withE E) k = wpK X k
  | [] => rfl
  | .code c :: k => by
    show Exit.then (fun a w => c.wpIn X.F X.n X.P (wpK (X.withE E) k) a w) (wpK (X.withE E) k) = _
    rw [wpK_E k]
    rfl
  | .ops o l :: k => by
    show Exit.then (fun a w => wpOpsIn X.F X.n X.P o (wpK (X.withE E) k) l a w) (wpK (X.withE E) k) = _
    rw [wpK_E k]
    rfl
  | .blk id :: k => by
    show Exit.inBlock id (wpK (X.withE E) k) = _
    rw [wpK_E k]
    rfl
  | .lp J :: k => by
    show Exit.then J (wpK (X.withE E) k) = _
    rw [wpK_E k]
    rfl
def YieldW (P : Program) (l : Nat) (args : Array Value) (w : World) (R : Ending → World → Prop) : Prop := YieldAt Fence.wide 0 P l args w R
/-- A call of yield. -/
theorem run_yield {X : Cx} {k : List KI} {st : St} (l : Nat) (args : Array Value) (d : Option Tmp) (h : headSem X.N k st = some (Instr.yield l args, d)) (hDM : ∀ b, b < X.B.heap.size → X.E.D b → X.M b) (Ok : Ext → Bool → Prop)
    (hy : ∀ w, X.E.J w → Kept X.M X.B w → YieldW X.P l args w fun e w' => ∃ E' t, Ok E' t ∧ E'.n0 = X.E.n0 ∧ e = .returned (.bool t) ∧ E'.J w' ∧ Kept X.E.D w w' ∧ ∀ b, E'.D b → X.E.D b ∨ w.heap.size ≤ b)
    (hr : ∀ E' t, Ok E' t → E'.n0 = X.E.n0 → (∀ b, E'.D b → X.E.D b ∨ X.B.heap.size ≤ b) → Run (X.withE E') (nextK k) (st.put d (.bool t))) : Run X k st := by
  intro a w g
  refine head_at h g ?_
  obtain ⟨fn, tmps, assign, body, hrun, hround⟩ := hy w g.ex.J g.kp
  rw [hrun]
  refine hround.mono fun e w' ⟨E', t, hok, hn0, he, hJ, hk, hsub⟩ => ?_
  subst he
  have hlt : ∀ p ∈ st.hp, p.1 < w.heap.size := fun p hp => (Array.getElem?_eq_some_iff.1 (g.hp p hp).1).1
  have g' : G (X.withE E') st a w' := by
    refine ⟨?_, g.sz, g.sl, fun p hp => ⟨(hk.block _ (hlt p hp) (g.ex.hp p hp).2).trans (g.hp p hp).1, (g.hp p hp).2⟩, g.ne, g.nd, g.kp.trans hk fun b hb hD => hDM b hb hD, ⟨hJ, fun p hp => ⟨?_, fun hD => ?_⟩, ?_⟩⟩
    · obtain ⟨Ds, h1, h2, h3⟩ := g.df
      refine ⟨Ds, h1, h2, fun D hD => ?_⟩
      obtain ⟨h4, h5, h6, h7⟩ := h3 D hD
      have h8 := (Array.getElem?_eq_some_iff.1 h4).1
      refine ⟨(hk.block D h8 h7).trans h4, h5, ?_, fun hE => ?_⟩
      · show E'.n0 ≤ D
        rw [hn0]
        exact h6
      · rcases hsub D hE with h9 | h9
        · exact h7 h9
        · omega
    · show E'.n0 ≤ p.1
      rw [hn0]
      exact (g.ex.hp p hp).1
    · rcases hsub p.1 hD with h9 | h9
      · exact (g.ex.hp p hp).2 h9
      · have := hlt p hp
        omega
    · show E'.n0 ≤ w'.heap.size
      rw [hn0]
      exact Nat.le_trans g.ex.n0 hk.size
  have := hr E' t hok hn0 (fun b hb => (hsub b hb).imp_right fun h => Nat.le_trans g.kp.size h) _ _ (g'.put (X := X.withE E') (headSem_dst h) (.bool t))
  rw [wpK_E] at this
  exact this

/-- What an iterator gives: lists that are Pre, element by element, until yield says no; if it does not, one that is Fin. Pin: what it needs of memory. J: what holds of others when so many have been given; Jx: when yield has said no. -/
def Gives (P : Program) (gf : FuncId) (caps : Array Value) (own : List (Nat × Obj)) (Pin : (Nat → Prop) → World → Prop) (Pre Fin : List (List Value) → Prop) : Prop :=
  ∀ (l : Nat) (J : List (List Value) → Ext → Prop) (Jx : Ext → Prop) (E0 : Ext) (w : World), E0.n0 = w.heap.size → J [] E0 → E0.J w → Hp own w → (∀ p ∈ own, ¬ E0.D p.1) → Pin E0.D w →
    (∀ pre x E w1, Pre (pre ++ [x]) → J pre E → E.n0 = E0.n0 → E.J w1 → YieldW P l x.toArray w1 fun e w' => ∃ E', E'.n0 = E0.n0 ∧ E'.J w' ∧ Kept E.D w1 w' ∧ (∀ b, E'.D b → E.D b ∨ w1.heap.size ≤ b) ∧ ((e = .returned (.bool true) ∧ J (pre ++ [x]) E') ∨ (e = .returned (.bool false) ∧ Jx E'))) →
    Calls P gf (#[.func (.yield l) #[] #[]] ++ caps) w fun e w' => e = .returned (.tuple #[]) ∧ ∃ E', E'.n0 = E0.n0 ∧ E'.J w' ∧ ((∃ ys, Fin ys ∧ J ys E') ∨ Jx E')

/-- A loop in whose rounds what holds of others may turn. -/
theorem run_loopE {X : Cx} {k : List KI} {st : St} {σ : Type} (S : σ → St) (E : σ → Ext) (I : σ → Prop) (μ : σ → Nat) (x : σ) (hk : isLoop k = true) (hI : I x) (hs : S x = st) (hE : E x = X.E)
    (round : ∀ x, I x → ∀ J : Act → World → Prop, (∀ y, I y → μ y < μ x → ∀ a w, G (X.withE (E y)) (S y) a w → J a w) → Run (X.withE (E x)) (bodyK J k) (S x)) : Run X k st := by
  unfold isLoop at hk
  split at hk
  · rename_i c k'
    intro a w g
    subst hs
    have key : ∀ {σ : Type} (J : σ → Act → World → Prop) (μ : σ → Nat) (round : ∀ x a w, J x a w → c.wpIn X.F X.n X.P (Exit.then (fun a' w' => ∃ x', J x' a' w' ∧ μ x' < μ x) (wpK X k')) a w) {x : σ} {a : Act} {w : World} (_ : J x a w), (Code.loop c).wpIn X.F X.n X.P (wpK X k') a w := by
      intro σ J μ round x a w h
      refine wpIn_loop_g (σ := Nat) (fun m a w => ∃ x, μ x = m ∧ J x a w) id (fun m a w ⟨x, hm, hx⟩ => ?_) ⟨x, rfl, h⟩
      refine wpIn_mono (round x a w hx) fun e a w h => ?_
      cases e with
      | normal =>
        obtain ⟨x', h1, h2⟩ := h
        exact ⟨μ x', ⟨x', rfl, h1⟩, by rw [← hm]; exact h2⟩
      | _ => exact h
    refine key (fun y a w => G (X.withE (E y)) (S y) a w ∧ I y) μ (fun y a w ⟨g, hy⟩ => ?_) (x := x) ⟨by rw [hE]; exact g, hI⟩
    have h1 := round y hy (fun a w => ∃ x', (G (X.withE (E x')) (S x') a w ∧ I x') ∧ μ x' < μ y) (fun z hz hm a w g => ⟨z, ⟨g, hz⟩, hm⟩) a w g
    have h2 : c.wpIn X.F X.n X.P (wpK (X.withE (E y)) (.lp (fun a w => ∃ x', (G (X.withE (E x')) (S x') a w ∧ I x') ∧ μ x' < μ y) :: k')) a w := h1
    rw [wpK_E] at h2
    refine wpIn_mono h2 fun e a w h => ?_
    cases e <;> exact h
  · cases hk
end Go.Proofs.Ytmiobcnccbfknaa
