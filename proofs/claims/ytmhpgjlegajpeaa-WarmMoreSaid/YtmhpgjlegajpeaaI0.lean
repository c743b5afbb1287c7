/-
  A drawn region none of whose operations panics, in a loop too.
-/
import Derived.Test.YtmhpgjlegajpeaaR2
import Derived.OwnWalkIn
namespace Go.Proofs.Ytmhpgjlegajpeaa
open Go.RowKit

variable {F : Fence} {n : Nat} {P : Program}
theorem region_calm {Q : Exit → Act → World → Prop} {id : Nat} {a : Act} {w : World} {opsl : List Oper} (M : Nat) (segs : List (Nat × List Nat)) (hfn : ∀ f, F.fn f) (hd : noDefer opsl = true) (hm : P.follows .mixedOrders = true) (hn : Region.noSelect opsl.toArray = true)
    (hB : (mixFrom .any opsl M segs (Array.replicate opsl.length false) && lastB .any opsl M && decide ((segs.flatMap (·.2)).length ≤ opsl.length)) = true) (h : wpMix F n P opsl (fun e a w => e = .normal ∧ Q .normal a w) segs a w.drew) : (Code.region id opsl.toArray true).wpIn F n P Q a w :=
  Code.wpIn_mono (fun e a w h => by obtain ⟨rfl, h⟩ := h; exact h) (region_mix (Q := fun e a w => e = .normal ∧ Q .normal a w) M segs hfn (fun c a a' w _ h => by cases h.1) hd hm hn hB h)
/-- Where nothing panics it does not matter what a panic would leave. -/
theorem calm {Q : Exit → Act → World → Prop} {c : Code} {a : Act} {w : World} (h : c.wpIn F n P (fun e a w => e = .normal ∧ Q .normal a w) a w) : c.wpIn F n P Q a w :=
  Code.wpIn_mono (fun e a w h => by obtain ⟨rfl, h⟩ := h; exact h) h
theorem calm_ok {Q : Exit → Act → World → Prop} {ops : List Oper} (hfn : ∀ f, F.fn f) (hB : (noDefer ops && Region.noSelect ops.toArray) = true) : CixOk F P (fun e a w => e = .normal ∧ Q .normal a w) ops :=
  CixOk.of hfn (fun c a a' w _ h => by cases h.1) hB
/-- An append inside a fence, by its run. -/
theorem wpListIn_append_run {w : World} {ops : Array Oper} {rest : List Oper} {o : Oper} {a : Act} {Q : Exit → Act → World → Prop} (hg : o.guard = none) (s x : Operand) (t : TypeId)
    (hop : o.op = Op.call { callee := Callee.builtin Builtin.append, args := #[s, x], argTypes := #[t, t] }) (v u : Value) (hs : a.eval s = v) (hx : a.eval x = u) (R : Value → World → Prop)
    (hr : ∃ v' w', (Builtin.append_ #[t, t] o.type #[v, u]).run P w = .ok v' w' ∧ R v' w') (hK : ∀ v' w', R v' w' → wpListIn F n P ops Q rest (a.put o.dst v') w') : wpListIn F n P ops Q (o :: rest) a w := by
  refine wpListIn_plain hg fun K hK' => ?_
  obtain ⟨v', w', hrun, hR⟩ := hr
  unfold Oper.wpIn
  refine ⟨?_, ?_⟩
  · simp [Oper.about, hop, resolve, Target.leads, Sem.run_pure]
  · rw [Oper.semAt_plain F _ _ (by rw [hop]; intro c hc'; cases hc')]
    simp [execOp, hop, resolve, invoke, builtin, hs, hx, hrun, Result.andThen]
    exact hK' _ _ (hK v' w' hR)
end Go.Proofs.Ytmhpgjlegajpeaa
