/-
  A REGION THAT DRAWS ITS ORDER, STEP BY STEP, over a class of worlds: operations that give the same in all of them, and others that lead from one to another.
-/
import Derived.Test.YtidiikmpgpnmpaaR4
namespace Go.Proofs.Ytidiikmpgpnmpaa
structure Inw (C : World → Prop) where
  W : World
  h : C W
section
variable {F : Fence} {n : Nat} {P : Program} {ops : Array Oper} {md : Region.Mode} {Q : Exit → Act → World → Prop} {C : World → Prop}

/-- In every world of the class the operation gives v, and turns nothing. -/
def StillC (P : Program) (ops : Array Oper) (C : World → Prop) (o : Oper) (v : Value) (a : Act) : Prop :=
  (Region.wanted o (yielded ops a.tmps) = true ∧ ∀ w', C w' → (execOp a.eval o).run P w' = .ok (.value v) w' ∨ ((execOp a.eval o).run P w' = .ok .skip w' ∧ v = undef)) ∨ (Region.wanted o (yielded ops a.tmps) = false ∧ v = undef)
theorem StillC.wpOpIn {i : Nat} {o : Oper} {v : Value} {a : Act} {w : World} (hfn : ∀ f, F.fn f) (hi : ops[i]? = some o) (hd : ∀ c, o.op ≠ .defer c) (hy : StillC P ops C o v a) (hC : C w) {K : Act → World → Prop} (h : K (a.put o.dst v) w) : wpOpIn F n P ops Q i K a w := by
  unfold Go.wpOpIn
  simp only [hi]
  rcases hy with ⟨hw, hv⟩ | ⟨hw, rfl⟩
  · simp only [hw, if_true, Oper.wpIn, Oper.semAt_eq _ _ _ hd]
    refine ⟨fun f _ => hfn f, ?_⟩
    rcases hv w hC with h2 | ⟨h2, e⟩
    · rw [h2]; exact h
    · rw [h2]; subst e; exact h
  · simp only [hw, Bool.false_eq_true, if_false]; exact ⟨fun f _ => hfn f, h⟩
theorem StillC.of_same {o : Oper} {v : Value} {a a' : Act} (hy : StillC P ops C o v a) (he : execOp a'.eval o = execOp a.eval o) (hw : Region.wanted o (yielded ops a'.tmps) = Region.wanted o (yielded ops a.tmps)) : StillC P ops C o v a' := by
  unfold StillC
  rw [he, hw]
  exact hy
theorem stillC_put {j : Nat} {oi oj : Oper} {v : Value} (hj : ops[j]? = some oj) (hdj : ∀ c, oj.op ≠ .defer c) (hap : oi.apart ops oj = true)
    (hsi : ∀ cs b, oi.op ≠ .select cs b) (hsj : ∀ cs b, oj.op ≠ .select cs b)
    (hQ : ∀ c a w, Q (.panic c) (a.put oi.dst v) w → Q (.panic c) a w) {K : Act → World → Prop} {a : Act} {w : World}
    (hy : StillC P ops C oi v a) (h : wpOpIn F n P ops Q j K (a.put oi.dst v) w) :
    wpOpIn F n P ops Q j (fun a' w' => StillC P ops C oi v a' ∧ K (a'.put oi.dst v) w') a w := by
  obtain ⟨h1, h2, h3⟩ := Oper.apart_spec hap
  have keep : ∀ (a : Act), StillC P ops C oi v a → ∀ u, StillC P ops C oi v (a.put oj.dst u) := fun a hy u =>
    hy.of_same (execOp_put oi hsi a oj.dst u h3) (wanted_put oi a oj.dst u h3)
  have keepD : ∀ d, StillC P ops C oi v { a with defers := d :: a.defers } := fun d => hy.of_same rfl rfl
  unfold wpOpIn at *
  simp only [hj] at *
  rw [wanted_put oj a oi.dst v h1, about_put oj w a oi.dst v h1] at h
  split
  · rename_i hw
    simp only [hw, if_true] at h
    unfold Oper.wpIn at *
    rw [about_put oj w a oi.dst v h1] at h
    refine ⟨h.1, ?_⟩
    have h := h.2
    rw [Oper.semAt_eq _ _ _ hdj, execOp_put oj hsj a oi.dst v h1] at h
    rw [Oper.semAt_eq _ _ _ hdj]
    generalize (execOp a.eval oj).run P w = r at *
    cases r with
    | ok x w' =>
      cases x <;> simp only [Oper.uponIn] at h ⊢
      case value u => exact ⟨keep a hy u, by rw [← Act.put_comm a v u h2]; exact h⟩
      case skip => exact ⟨keep a hy _, by rw [← Act.put_comm a v undef h2]; exact h⟩
      case defer d =>
        refine ⟨keep _ (keepD d) _, ?_⟩
        rw [← Act.put_comm _ v undef h2, ← Act.put_defers]
        exact h
      case enter f args =>
        refine ⟨h.1, CallsIn.mono h.2 fun e w'' he => ?_⟩
        cases e with
        | returned u => exact ⟨keep a hy u, by rw [← Act.put_comm a v u h2]; exact he⟩
        | panicked c => exact hQ _ _ _ he
        | outgrown => exact he
      case row row args => exact ⟨h.1, RowsIn.mono h.2 fun u w'' he => ⟨keep a hy u, by rw [← Act.put_comm a v u h2]; exact he⟩⟩
      case round l f tmps assign body =>
        refine ⟨h.1, RoundIn.mono h.2 fun e w'' he => ?_⟩
        cases e with
        | returned u => exact ⟨keep a hy u, by rw [← Act.put_comm a v u h2]; exact he⟩
        | panicked c => exact hQ _ _ _ he
        | outgrown => exact he
    | halt x w' =>
      cases x <;> simp only [Oper.uponIn] at h ⊢
      case panic u => exact hQ _ _ _ h
  · rename_i hw
    simp only [hw] at h
    exact ⟨h.1, keep a hy _, by rw [← Act.put_comm a v undef h2]; exact h.2⟩
/-- An operation that waits for all others. -/
def Lst (md : Region.Mode) (ops : Array Oper) (j : Nat) : Prop := ∀ oj, ops[j]? = some oj → ∀ i, i ≠ j → i < ops.size → ∃ e ∈ oj.after, Region.binds md e = true ∧ e.on = i
/-- Every order, each step staying in the class, but for one that waits for all others. -/
def wpAnyC (F : Fence) (n : Nat) (P : Program) (md : Region.Mode) (ops : Array Oper) (Q : Exit → Act → World → Prop) (C : World → Prop) : Nat → Array Bool → Act → World → Prop
  | 0, listed, a, w => Region.ready md ops listed = [] ∧ Q .normal a w
  | fuel + 1, listed, a, w => (Region.ready md ops listed = [] → Q .normal a w) ∧ ∀ i ∈ Region.ready md ops listed, wpOpIn F n P ops Q i (fun a' w' => (C w' ∨ Lst md ops i) ∧ wpAnyC F n P md ops Q C fuel (listed.setIfInBounds i true) a' w') a w
theorem wpAnyC_any : ∀ (fuel : Nat) (listed : Array Bool) (a : Act) (w : World), wpAnyC F n P md ops Q C fuel listed a w → wpAnyIn F n P md ops Q fuel listed a w
  | 0, _, _, _, h => h
  | fuel + 1, _, _, _, h => ⟨h.1, fun i hi => wpOpIn_mono (fun a' w' h' => wpAnyC_any fuel _ a' w' h'.2) (h.2 i hi)⟩
theorem wpAnyC_mono {C' : World → Prop} (hC : ∀ w, C' w → C w) : ∀ (fuel : Nat) (listed : Array Bool) (a : Act) (w : World), wpAnyC F n P md ops Q C' fuel listed a w → wpAnyC F n P md ops Q C fuel listed a w
  | 0, _, _, _, h => h
  | fuel + 1, _, _, _, h => ⟨h.1, fun i hi => wpOpIn_mono (fun a' w' h' => ⟨h'.1.imp (hC _) id, wpAnyC_mono hC fuel _ a' w' h'.2⟩) (h.2 i hi)⟩
theorem firstC {i : Nat} {oi : Oper} {v : Value} (hfn : ∀ f, F.fn f) (hi : ops[i]? = some oi) (hdef : ∀ (j : Nat) (o : Oper), ops[j]? = some o → ∀ c, o.op ≠ .defer c) (hsel : ∀ (j : Nat) (o : Oper) cs b, ops[j]? = some o → o.op ≠ .select cs b)
    (hQ : ∀ c a w, Q (.panic c) (a.put oi.dst v) w → Q (.panic c) a w) :
    ∀ (fuel : Nat) (listed : Array Bool) (a : Act) (w : World),
      (∀ j oj, ops[j]? = some oj → j ≠ i → listed.getD j true = false → (∀ e ∈ oj.after, Region.binds md e = true → e.on ≠ i) → oi.apart ops oj = true) →
      i ∈ Region.ready md ops listed → StillC P ops C oi v a → C w →
      wpAnyC F n P md ops Q C fuel (listed.setIfInBounds i true) (a.put oi.dst v) w → wpAnyC F n P md ops Q C (fuel + 1) listed a w := by
  intro fuel
  induction fuel with
  | zero =>
    intro listed a w _ hr hy hC H
    refine ⟨fun h => (by rw [h] at hr; cases hr), fun j hj => ?_⟩
    by_cases hji : j = i
    · subst hji; exact hy.wpOpIn hfn hi (hdef j oi hi) hC ⟨.inl hC, H⟩
    · have := ready_mono hj hji
      rw [H.1] at this
      cases this
  | succ fuel ih =>
    intro listed a w hfree hr hy hC H
    refine ⟨fun h => (by rw [h] at hr; cases hr), fun j hj => ?_⟩
    by_cases hji : j = i
    · subst hji; exact hy.wpOpIn hfn hi (hdef j oi hi) hC ⟨.inl hC, H⟩
    · have h1 := H.2 j (ready_mono hj hji)
      obtain ⟨hjun, oj, hoj, hall⟩ := mem_ready.1 hj
      have hnot : ∀ e ∈ oj.after, Region.binds md e = true → e.on ≠ i := fun e he hb heq => by
        have h1 := hall e he hb
        have h0 := (mem_ready.1 hr).1
        rw [heq] at h1
        rcases Nat.lt_or_ge i listed.size with h' | h'
        · simp [h'] at h0 h1; rw [h0] at h1; cases h1
        · simp [Array.getElem?_eq_none h'] at h1
      have h2 := stillC_put hoj (hdef j oj hoj) (hfree j oj hoj hji hjun hnot) (fun cs b => hsel i oi cs b hi) (fun cs b => hsel j oj cs b hoj) hQ hy h1
      have hfree' : ∀ k ok, ops[k]? = some ok → k ≠ i → (listed.setIfInBounds j true).getD k true = false →
          (∀ e ∈ ok.after, Region.binds md e = true → e.on ≠ i) → oi.apart ops ok = true := fun k ok hk hki hun hno => by
        refine hfree k ok hk hki ?_ hno
        by_cases hjk : j = k
        · subst hjk; exact hjun
        · rw [getD_set_ne true hjk] at hun; exact hun
      refine wpOpIn_mono (fun a' w' h3 => ⟨h3.2.1, ih (listed.setIfInBounds j true) a' w' hfree' (ready_mono hr (Ne.symm hji)) h3.1 (h3.2.1.resolve_right (fun e => by obtain ⟨x, hx, hb, ho⟩ := e oj hoj i (Ne.symm hji) (Array.getElem?_eq_some_iff.1 hi).1; exact hnot x hx hb ho)) ?_⟩) h2
      rw [Array.setIfInBounds_comm _ _ hji]
      exact h3.2.2
theorem stillC_of_quiet {o : Oper} {a : Act} {K : Act → Prop} (h : if Region.wanted o (yielded ops a.tmps) then o.quietIn Fence.still 0 P a (fun w' => ∃ q : Inw C, w' = q.W) K else K (a.put o.dst undef)) : ∃ v, StillC P ops C o v a ∧ K (a.put o.dst v) := by
  split at h
  · rename_i hw
    obtain ⟨v, hv, hK⟩ := h
    refine ⟨v, .inl ⟨hw, fun w' k => ?_⟩, hK⟩
    have h1 := hv w' ⟨⟨w', k⟩, rfl⟩
    unfold Oper.quietAtIn at h1
    revert h1
    generalize (execOp a.eval o).run P w' = r
    cases r with
    | halt x w2 => exact fun h => h.elim
    | ok x w2 =>
      cases x with
      | value u => rintro ⟨rfl, rfl⟩; exact .inl rfl
      | skip => rintro ⟨rfl, rfl⟩; exact .inr ⟨rfl, rfl⟩
      | enter f args => rintro ⟨_, h2, _⟩; have := h2 rfl; omega
      | _ => exact fun h => False.elim h
  · rename_i hw
    exact ⟨undef, .inr ⟨by simpa using hw, rfl⟩, h⟩
def quietC (md : Region.Mode) (ops : List Oper) : List Nat → Array Bool → Bool
  | [], _ => true
  | i :: l, L => decide (i < ops.length) && (Region.ready md ops.toArray L).contains i && Region.free md ops.toArray L i && quietC md ops l (L.setIfInBounds i true)
structure CixOk (F : Fence) (P : Program) (Q : Exit → Act → World → Prop) (ops : List Oper) : Prop where
  hfn : ∀ f, F.fn f
  hdef : ∀ (j : Nat) (o : Oper), ops.toArray[j]? = some o → ∀ c, o.op ≠ .defer c
  hsel : ∀ (j : Nat) (o : Oper) cs b, ops.toArray[j]? = some o → o.op ≠ .select cs b
  hQ : ∀ c a a' w, a.defers = a'.defers → Q (.panic c) a w → Q (.panic c) a' w
theorem CixOk.of {ops : List Oper} (hfn : ∀ f, F.fn f) (hQ : ∀ c a a' w, a.defers = a'.defers → Q (.panic c) a w → Q (.panic c) a' w) (hB : (noDefer ops && Region.noSelect ops.toArray) = true) : CixOk F P Q ops := by
  simp only [Bool.and_eq_true] at hB
  obtain ⟨h1, h2⟩ := hB
  exact ⟨hfn, fun j o ho => noDefer_at (l := ops) (i := j) h1 (by simpa using ho), Region.noSelect_spec h2, hQ⟩
theorem cix_start {id : Nat} {a : Act} {w : World} {ops : List Oper} (hm : P.follows .mixedOrders = true) (C : World → Prop) (h : wpAnyC F n P .any ops.toArray Q C ops.length (Array.replicate ops.length false) a w.drew) : (Code.region id ops.toArray true).wpIn F n P Q a w := by
  refine wpIn_region_any hm ?_
  simpa using wpAnyC_any _ _ _ _ h
theorem cix_rebase {m : Nat} {ops : List Oper} {L : Array Bool} {a : Act} {w : World} (C' : World → Prop) (hC : ∀ w, C' w → C w) (h : wpAnyC F n P .any ops.toArray Q C' m L a w) : wpAnyC F n P .any ops.toArray Q C m L a w := wpAnyC_mono hC _ _ _ _ h
theorem quiet_segC {ops : List Oper} (ok : CixOk F P Q ops) {w : World} (hC : C w) {Qf : Act → Prop} (m : Nat) :
    ∀ (l : List Nat) (L : Array Bool) (a : Act), quietC .any ops l L = true → (∀ a', Qf a' → wpAnyC F n P .any ops.toArray Q C m (setAll L l) a' w) → wpQuietIn Fence.still 0 P ops.toArray (fun w' => ∃ q : Inw C, w' = q.W) Qf (opsAt ops l) a → wpAnyC F n P .any ops.toArray Q C (m + l.length) L a w
  | [], L, a, _, hq, h => hq a h
  | i :: l, L, a, hB, hq, h => by
    simp only [quietC, Bool.and_eq_true, decide_eq_true_eq, List.contains_iff_mem] at hB
    obtain ⟨⟨⟨hlt, hr⟩, hf⟩, hB⟩ := hB
    have ho : ops[i]? = some ops[i] := List.getElem?_eq_getElem hlt
    have ho' : ops.toArray[i]? = some ops[i] := by rw [List.getElem?_toArray]; exact ho
    rw [opsAt, List.filterMap_cons_some ho] at h
    obtain ⟨v, hy, hK⟩ := stillC_of_quiet h.2
    have ih := quiet_segC ok hC m l (L.setIfInBounds i true) (a.put ops[i].dst v) hB (fun a' h' => hq a' h') hK
    rw [List.length_cons, ← Nat.add_assoc]
    exact firstC ok.hfn ho' ok.hdef ok.hsel (fun c a w h => ok.hQ c _ _ w (by cases ops[i].dst <;> rfl) h) (m + l.length) L a w (Region.free_spec ho' hf) hr hy hC ih
theorem cix_quiet {m k : Nat} {ops : List Oper} {L : Array Bool} {a : Act} {w : World} (ok : CixOk F P Q ops) (l : List Nat) (hk : k = m + l.length) (hB : quietC .any ops l L = true) (hC : C w)
    (h : wpQuietIn Fence.still 0 P ops.toArray (fun w' => ∃ q : Inw C, w' = q.W) (fun a' => wpAnyC F n P .any ops.toArray Q C m (setAll L l) a' w) (opsAt ops l) a) : wpAnyC F n P .any ops.toArray Q C k L a w := by
  subst hk
  exact quiet_segC ok hC m l L a hB (fun _ h => h) h
theorem cix_one {m k : Nat} {ops : List Oper} {L : Array Bool} {a : Act} {w : World} (i : Nat) (o : Oper) (hk : k = m + 1) (ho : ops[i]? = some o) (hr : (Region.ready .any ops.toArray L == [i]) = true)
    (h : wpListIn F n P ops.toArray (fun e a' w' => (e = .normal ∧ C w' ∧ wpAnyC F n P .any ops.toArray Q C m (L.setIfInBounds i true) a' w') ∨ ((∃ c, e = .panic c) ∧ Q e a' w')) [o] a w) : wpAnyC F n P .any ops.toArray Q C k L a w := by
  subst hk
  rw [beq_iff_eq] at hr
  refine ⟨fun e => (by rw [hr] at e; cases e), fun j hj => ?_⟩
  rw [hr, List.mem_singleton] at hj
  subst hj
  exact mono_op ho (fun e a w h => h.imp (fun h => ⟨h.1, .inl h.2.1, h.2.2⟩) id) h
theorem cix_two {m k : Nat} {ops : List Oper} {L : Array Bool} {a : Act} {w : World} (i : Nat) (o : Oper) (i' : Nat) (o' : Oper) (hk : k = m + 1) (ho : ops[i]? = some o) (ho' : ops[i']? = some o') (hr : (Region.ready .any ops.toArray L == [i, i']) = true)
    (h : wpListIn F n P ops.toArray (fun e a' w' => (e = .normal ∧ C w' ∧ wpAnyC F n P .any ops.toArray Q C m (L.setIfInBounds i true) a' w') ∨ ((∃ c, e = .panic c) ∧ Q e a' w')) [o] a w)
    (h' : wpListIn F n P ops.toArray (fun e a' w' => (e = .normal ∧ C w' ∧ wpAnyC F n P .any ops.toArray Q C m (L.setIfInBounds i' true) a' w') ∨ ((∃ c, e = .panic c) ∧ Q e a' w')) [o'] a w) : wpAnyC F n P .any ops.toArray Q C k L a w := by
  subst hk
  rw [beq_iff_eq] at hr
  refine ⟨fun e => (by rw [hr] at e; cases e), fun j hj => ?_⟩
  rw [hr] at hj
  rcases List.mem_cons.1 hj with e | hj
  · subst e
    exact mono_op ho (fun e a w h => h.imp (fun h => ⟨h.1, .inl h.2.1, h.2.2⟩) id) h
  · rw [List.mem_singleton] at hj
    subst hj
    exact mono_op ho' (fun e a w h => h.imp (fun h => ⟨h.1, .inl h.2.1, h.2.2⟩) id) h'
theorem cix_done {ops : List Oper} {L : Array Bool} {a : Act} {w : World} (hr : (Region.ready .any ops.toArray L == []) = true) (h : Q .normal a w) : ∀ k, wpAnyC F n P .any ops.toArray Q C k L a w
  | 0 => ⟨by rw [beq_iff_eq] at hr; exact hr, h⟩
  | _ + 1 => ⟨fun _ => h, by rw [beq_iff_eq] at hr; rw [hr]; simp⟩
theorem cix_last {m k : Nat} {ops : List Oper} {L : Array Bool} {a : Act} {w : World} (i : Nat) (o : Oper) (hk : k = m + 1) (ho : ops[i]? = some o) (hr : (Region.ready .any ops.toArray L == [i]) = true) (hr2 : (Region.ready .any ops.toArray (L.setIfInBounds i true) == []) = true)
    (hl : ((List.range ops.length).all fun i' => i' == i || (depsOf .any ops i).contains i') = true)
    (h : wpListIn F n P ops.toArray (fun e a' w' => (e = .normal ∧ Q .normal a' w') ∨ ((∃ c, e = .panic c) ∧ Q e a' w')) [o] a w) : wpAnyC F n P .any ops.toArray Q C k L a w := by
  subst hk
  rw [beq_iff_eq] at hr
  have hL : Lst .any ops.toArray i := fun oj hoj i' hi' hlt => by
    have h1 := List.all_eq_true.1 hl i' (List.mem_range.2 (by simpa using hlt))
    simp only [Bool.or_eq_true, beq_iff_eq, List.contains_iff_mem] at h1
    exact (depsOf_mem (by simpa using hoj)).1 (h1.resolve_left hi')
  refine ⟨fun e => (by rw [hr] at e; cases e), fun j hj => ?_⟩
  rw [hr, List.mem_singleton] at hj
  subst hj
  exact mono_op ho (fun e a w h => h.imp (fun h => ⟨h.1, .inr hL, cix_done hr2 h.2 _⟩) id) h
end
end Go.Proofs.Ytidiikmpgpnmpaa
