/-
  ENGINE, fifth part: loops.
-/
import Derived.Test.YtmiobcnccbfknaaX4
namespace Go.Proofs.Ytmiobcnccbfknaa
open Go.RowKit

theorem wpIn_loop_g {F : Fence} {n : Nat} {P : Program} {c : Code} {Q : Exit → Act → World → Prop} {σ : Type} (J : σ → Act → World → Prop) (μ : σ → Nat)
    (round : ∀ x a w, J x a w → c.wpIn F n P (Exit.then (fun a' w' => ∃ x', J x' a' w' ∧ μ x' < μ x) Q) a w) {x : σ} {a : Act} {w : World} (h₀ : J x a w) : (Code.loop c).wpIn F n P Q a w := by
  intro b k cs hro hb hr
  have key : ∀ j x a w, μ x = j → J x a w →
      ∃ e a' w', Q e a' w' ∧ ArrivesIn (Machine.fenced P F) P (lone (b.atR a (.code c :: .inLoop c :: k)) cs w) b k cs e a' w' := by
    intro j
    induction j using Nat.strongRecOn with
    | _ j ih =>
      intro x a w hn hI
      obtain ⟨e, a₁, w₁, hq, harr⟩ := round x a w hI b (.inLoop c :: k) cs hro hb hr
      cases e with
      | normal =>
        obtain ⟨x', hI₁, hlt⟩ := hq
        obtain ⟨e₂, a₂, w₂, hq₂, harr₂⟩ := ih (μ x') (hn ▸ hlt) x' a₁ w₁ rfl hI₁
        exact ⟨e₂, a₂, w₂, hq₂, .of_steps (StepsIn.trans harr (.one (fenced_calm hb hr rfl) stepR_inLoop)) harr₂⟩
      | exit id => exact ⟨_, a₁, w₁, hq, .pass (x := .inLoop c) rfl (fun _ _ => .inl (by simp)) harr⟩
      | goto l => exact ⟨_, a₁, w₁, hq, .pass (x := .inLoop c) rfl (fun _ _ => .inl (by simp)) harr⟩
      | ret => exact ⟨_, a₁, w₁, hq, .pass (x := .inLoop c) rfl (fun _ _ => .inl (by simp)) harr⟩
      | panic ch => exact ⟨_, a₁, w₁, hq, .pass (x := .inLoop c) rfl (fun _ _ => .inl (by simp)) harr⟩
      | outgrown => exact ⟨_, a₁, w₁, hq, .pass (x := .inLoop c) rfl (fun _ _ => .inl (by simp)) harr⟩
  obtain ⟨e, a', w', hq, harr⟩ := key _ x a w rfl h₀
  exact ⟨e, a', w', hq, .of_steps (.one (fenced_calm hb hr rfl) stepR_loop) harr⟩

def isLoop (k : List KI) : Bool :=
  match k with
  | .code (.loop _) :: _ => true
  | _ => false
/-- A round: what is in the loop, and what must hold behind it. -/
def bodyK (J : Act → World → Prop) (k : List KI) : List KI :=
  match k with
  | .code (.loop c) :: k => .code c :: .lp J :: k
  | k => k
/-- A loop. x is what turns: S x the state, I x what is so, μ x how much there is left. -/
theorem run_loop {X : Cx} {k : List KI} {st : St} {σ : Type} (S : σ → St) (I : σ → Prop) (μ : σ → Nat) (x : σ) (hk : isLoop k = true) (hI : I x) (hs : S x = st)
    (round : ∀ x, I x → ∀ J : Act → World → Prop, (∀ y, I y → μ y < μ x → ∀ a w, G X (S y) a w → J a w) → Run X (bodyK J k) (S x)) : Run X k st := by
  unfold isLoop at hk
  split at hk
  · rename_i c k'
    intro a w g
    subst hs
    refine wpIn_loop_g (fun y a w => G X (S y) a w ∧ I y) μ (fun y a w ⟨g, hy⟩ => ?_) ⟨g, hI⟩
    refine wpIn_mono ((round y hy (fun a w => ∃ x', (G X (S x') a w ∧ I x') ∧ μ x' < μ y) fun z hz hm a w g => ⟨z, ⟨g, hz⟩, hm⟩) a w g) fun e a w h => ?_
    cases e <;> exact h
  · cases hk
def headLp (k : List KI) : Option (Act → World → Prop) :=
  match k with
  | .lp J :: _ => some J
  | _ => none
/-- The end of a round. -/
theorem run_round {X : Cx} {st : St} {J : Act → World → Prop} {k : List KI} (hk : headLp k = some J) (h : ∀ a w, G X st a w → J a w) : Run X k st := by
  unfold headLp at hk
  split at hk
  · injection hk with hk
    subst hk
    exact h
  · cases hk
end Go.Proofs.Ytmiobcnccbfknaa
