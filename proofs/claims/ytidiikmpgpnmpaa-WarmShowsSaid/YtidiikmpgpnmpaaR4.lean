/-
  A REGION THAT DRAWS ITS ORDER, IN A ROUND OR NOT: operations that only read (in every later world they give the same), and calls that keep what lay there and hand back what they will: one walk in the text's order serves every order, if each call waits for the one before it.
-/
import Derived.Test.YtidiikmpgpnmpaaR3
namespace Go.Proofs.Ytidiikmpgpnmpaa
section
variable {F : Fence} {n : Nat} {P : Program} {ops : Array Oper} {md : Region.Mode} {Q : Exit → Act → World → Prop}

def Fence.still : Fence := { fn := fun _ => True, depth := some 0, alive := false }
/-- In every world that keeps what lies in w the operation gives v, and turns nothing. -/
def Still (P : Program) (ops : Array Oper) (w : World) (o : Oper) (v : Value) (a : Act) : Prop :=
  (Region.wanted o (yielded ops a.tmps) = true ∧ ∀ w', Keeps w w' → (execOp a.eval o).run P w' = .ok (.value v) w' ∨ ((execOp a.eval o).run P w' = .ok .skip w' ∧ v = undef)) ∨ (Region.wanted o (yielded ops a.tmps) = false ∧ v = undef)
theorem Still.later {w w' : World} {o : Oper} {v : Value} {a : Act} (h : Still P ops w o v a) (k : Keeps w w') : Still P ops w' o v a := by
  rcases h with ⟨h1, h2⟩ | h
  · exact .inl ⟨h1, fun w2 k2 => h2 w2 (k.trans k2)⟩
  · exact .inr h
theorem Still.wpOpIn {i : Nat} {o : Oper} {v : Value} {a : Act} {w : World} (hfn : ∀ f, F.fn f) (hi : ops[i]? = some o) (hd : ∀ c, o.op ≠ .defer c) (hy : Still P ops w o v a) {K : Act → World → Prop} (h : K (a.put o.dst v) w) : wpOpIn F n P ops Q i K a w := by
  unfold Go.wpOpIn
  simp only [hi]
  rcases hy with ⟨hw, hv⟩ | ⟨hw, rfl⟩
  · simp only [hw, if_true, Oper.wpIn, Oper.semAt_eq _ _ _ hd]
    refine ⟨fun f _ => hfn f, ?_⟩
    rcases hv w (Keeps.refl w) with h2 | ⟨h2, e⟩
    · rw [h2]; exact h
    · rw [h2]; subst e; exact h
  · simp only [hw, Bool.false_eq_true, if_false]; exact ⟨fun f _ => hfn f, h⟩
theorem Still.of_same {w : World} {o : Oper} {v : Value} {a a' : Act} (hy : Still P ops w o v a) (he : execOp a'.eval o = execOp a.eval o) (hw : Region.wanted o (yielded ops a'.tmps) = Region.wanted o (yielded ops a.tmps)) : Still P ops w o v a' := by
  unfold Still
  rw [he, hw]
  exact hy
theorem still_put {j : Nat} {oi oj : Oper} {v : Value} (hj : ops[j]? = some oj) (hdj : ∀ c, oj.op ≠ .defer c) (hap : oi.apart ops oj = true)
    (hsi : ∀ cs b, oi.op ≠ .select cs b) (hsj : ∀ cs b, oj.op ≠ .select cs b)
    (hQ : ∀ c a w, Q (.panic c) (a.put oi.dst v) w → Q (.panic c) a w) {K : Act → World → Prop} {a : Act} {w : World}
    (hy : Still P ops w oi v a) (h : wpOpIn F n P ops Q j K (a.put oi.dst v) w) :
    wpOpIn F n P ops Q j (fun a' w' => Still P ops w oi v a' ∧ K (a'.put oi.dst v) w') a w := by
  obtain ⟨h1, h2, h3⟩ := Oper.apart_spec hap
  have keep : ∀ (a : Act), Still P ops w oi v a → ∀ u, Still P ops w oi v (a.put oj.dst u) := fun a hy u =>
    hy.of_same (execOp_put oi hsi a oj.dst u h3) (wanted_put oi a oj.dst u h3)
  have keepD : ∀ d, Still P ops w oi v { a with defers := d :: a.defers } := fun d => hy.of_same rfl rfl
  unfold wpOpIn at *
  simp only [hj] at *
  rw [wanted_put oj a oi.dst v h1, about_put oj w a oi.dst v h1] at h
  split
  · rename_i hw
    simp only [hw, if_true] at h
    unfold Oper.wpIn at *
    rw [about_put oj w a oi.dst v h1] at h
    refine ⟨h.1, ?_⟩
    have h := h.2
    rw [Oper.semAt_eq _ _ _ hdj, execOp_put oj hsj a oi.dst v h1] at h
    rw [Oper.semAt_eq _ _ _ hdj]
    generalize (execOp a.eval oj).run P w = r at *
    cases r with
    | ok x w' =>
      cases x <;> simp only [Oper.uponIn] at h ⊢
      case value u => exact ⟨keep a hy u, by rw [← Act.put_comm a v u h2]; exact h⟩
      case skip => exact ⟨keep a hy _, by rw [← Act.put_comm a v undef h2]; exact h⟩
      case defer d =>
        refine ⟨keep _ (keepD d) _, ?_⟩
        rw [← Act.put_comm _ v undef h2, ← Act.put_defers]
        exact h
      case enter f args =>
        refine ⟨h.1, CallsIn.mono h.2 fun e w'' he => ?_⟩
        cases e with
        | returned u => exact ⟨keep a hy u, by rw [← Act.put_comm a v u h2]; exact he⟩
        | panicked c => exact hQ _ _ _ he
        | outgrown => exact he
      case row row args => exact ⟨h.1, RowsIn.mono h.2 fun u w'' he => ⟨keep a hy u, by rw [← Act.put_comm a v u h2]; exact he⟩⟩
      case round l f tmps assign body =>
        refine ⟨h.1, RoundIn.mono h.2 fun e w'' he => ?_⟩
        cases e with
        | returned u => exact ⟨keep a hy u, by rw [← Act.put_comm a v u h2]; exact he⟩
        | panicked c => exact hQ _ _ _ he
        | outgrown => exact he
    | halt x w' =>
      cases x <;> simp only [Oper.uponIn] at h ⊢
      case panic u => exact hQ _ _ _ h
  · rename_i hw
    simp only [hw] at h
    exact ⟨h.1, keep a hy _, by rw [← Act.put_comm a v undef h2]; exact h.2⟩
/-- Every order, each of the first M operations keeping what lay there. -/
def wpAnyK (F : Fence) (n : Nat) (P : Program) (md : Region.Mode) (ops : Array Oper) (Q : Exit → Act → World → Prop) (M : Nat) : Nat → Array Bool → Act → World → Prop
  | 0, listed, a, w => Region.ready md ops listed = [] ∧ Q .normal a w
  | fuel + 1, listed, a, w => (Region.ready md ops listed = [] → Q .normal a w) ∧ ∀ i ∈ Region.ready md ops listed, wpOpIn F n P ops Q i (fun a' w' => (i < M → Keeps w w') ∧ wpAnyK F n P md ops Q M fuel (listed.setIfInBounds i true) a' w') a w
theorem wpAnyK_any {M : Nat} : ∀ (fuel : Nat) (listed : Array Bool) (a : Act) (w : World), wpAnyK F n P md ops Q M fuel listed a w → wpAnyIn F n P md ops Q fuel listed a w
  | 0, _, _, _, h => h
  | fuel + 1, _, _, _, h => ⟨h.1, fun i hi => wpOpIn_mono (fun a' w' h' => wpAnyK_any fuel _ a' w' h'.2) (h.2 i hi)⟩
theorem firstK {M i : Nat} {oi : Oper} {v : Value} (hfn : ∀ f, F.fn f) (hi : ops[i]? = some oi) (hiM : i < M) (hM : ∀ (j : Nat) (o : Oper), ops[j]? = some o → M ≤ j → ∃ e ∈ o.after, Region.binds md e = true ∧ e.on = i)
    (hdef : ∀ (j : Nat) (o : Oper), ops[j]? = some o → ∀ c, o.op ≠ .defer c) (hsel : ∀ (j : Nat) (o : Oper) cs b, ops[j]? = some o → o.op ≠ .select cs b)
    (hQ : ∀ c a w, Q (.panic c) (a.put oi.dst v) w → Q (.panic c) a w) :
    ∀ (fuel : Nat) (listed : Array Bool) (a : Act) (w : World),
      (∀ j oj, ops[j]? = some oj → j ≠ i → listed.getD j true = false → (∀ e ∈ oj.after, Region.binds md e = true → e.on ≠ i) → oi.apart ops oj = true) →
      i ∈ Region.ready md ops listed → Still P ops w oi v a →
      wpAnyK F n P md ops Q M fuel (listed.setIfInBounds i true) (a.put oi.dst v) w → wpAnyK F n P md ops Q M (fuel + 1) listed a w := by
  intro fuel
  induction fuel with
  | zero =>
    intro listed a w _ hr hy H
    refine ⟨fun h => (by rw [h] at hr; cases hr), fun j hj => ?_⟩
    by_cases hji : j = i
    · subst hji; exact hy.wpOpIn hfn hi (hdef j oi hi) ⟨fun _ => Keeps.refl w, H⟩
    · have := ready_mono hj hji
      rw [H.1] at this
      cases this
  | succ fuel ih =>
    intro listed a w hfree hr hy H
    refine ⟨fun h => (by rw [h] at hr; cases hr), fun j hj => ?_⟩
    by_cases hji : j = i
    · subst hji; exact hy.wpOpIn hfn hi (hdef j oi hi) ⟨fun _ => Keeps.refl w, H⟩
    · have h1 := H.2 j (ready_mono hj hji)
      obtain ⟨hjun, oj, hoj, hall⟩ := mem_ready.1 hj
      have hnot : ∀ e ∈ oj.after, Region.binds md e = true → e.on ≠ i := fun e he hb heq => by
        have h1 := hall e he hb
        have h0 := (mem_ready.1 hr).1
        rw [heq] at h1
        rcases Nat.lt_or_ge i listed.size with h' | h'
        · simp [h'] at h0 h1; rw [h0] at h1; cases h1
        · simp [Array.getElem?_eq_none h'] at h1
      have hjM : j < M := by
        rcases Nat.lt_or_ge j M with h | h
        · exact h
        · obtain ⟨e, he, hb, heq⟩ := hM j oj hoj h
          exact absurd heq (hnot e he hb)
      have h2 := still_put hoj (hdef j oj hoj) (hfree j oj hoj hji hjun hnot) (fun cs b => hsel i oi cs b hi) (fun cs b => hsel j oj cs b hoj) hQ hy h1
      have hfree' : ∀ k ok, ops[k]? = some ok → k ≠ i → (listed.setIfInBounds j true).getD k true = false →
          (∀ e ∈ ok.after, Region.binds md e = true → e.on ≠ i) → oi.apart ops ok = true := fun k ok hk hki hun hno => by
        refine hfree k ok hk hki ?_ hno
        by_cases hjk : j = k
        · subst hjk; exact hjun
        · rw [getD_set_ne true hjk] at hun; exact hun
      refine wpOpIn_mono (fun a' w' h3 => ⟨h3.2.1, ih (listed.setIfInBounds j true) a' w' hfree' (ready_mono hr (Ne.symm hji)) (h3.1.later (h3.2.1 hjM)) ?_⟩) h2
      rw [Array.setIfInBounds_comm _ _ hji]
      exact h3.2.2
/-- One operation's word, as the quiet walk gives it where no call may be entered. -/
theorem still_of_quiet {w : World} {o : Oper} {a : Act} {K : Act → Prop} (h : if Region.wanted o (yielded ops a.tmps) then o.quietIn Fence.still 0 P a (fun w' => ∃ q : Since w, w' = q.W) K else K (a.put o.dst undef)) : ∃ v, Still P ops w o v a ∧ K (a.put o.dst v) := by
  split at h
  · rename_i hw
    obtain ⟨v, hv, hK⟩ := h
    refine ⟨v, .inl ⟨hw, fun w' k => ?_⟩, hK⟩
    have h1 := hv w' ⟨⟨w', k⟩, rfl⟩
    unfold Oper.quietAtIn at h1
    revert h1
    generalize (execOp a.eval o).run P w' = r
    cases r with
    | halt x w2 => exact fun h => h.elim
    | ok x w2 =>
      cases x with
      | value u => rintro ⟨rfl, rfl⟩; exact .inl rfl
      | skip => rintro ⟨rfl, rfl⟩; exact .inr ⟨rfl, rfl⟩
      | enter f args => rintro ⟨_, h2, _⟩; have := h2 rfl; omega
      | _ => exact fun h => False.elim h
  · rename_i hw
    exact ⟨undef, .inr ⟨by simpa using hw, rfl⟩, h⟩

def opsAt (ops : List Oper) (l : List Nat) : List Oper := l.filterMap (ops[·]?)
/-- The walk, by the operations' numbers: parts that only read (0), calls that keep what lay there, one by one (1), what comes behind all of them, one by one (2), a call that panics (3). -/
def wpMix (F : Fence) (n : Nat) (P : Program) (ops : List Oper) (Q : Exit → Act → World → Prop) : List (Nat × List Nat) → Act → World → Prop
  | [], a, w => Q .normal a w
  | (0, l) :: r, a, w => wpQuietIn Fence.still 0 P ops.toArray (fun w' => ∃ q : Since w, w' = q.W) (fun a' => wpMix F n P ops Q r a' w) (opsAt ops l) a
  | (1, [i]) :: r, a, w => wpListIn F n P ops.toArray (fun e a' w' => e = .normal ∧ Keeps w w' ∧ wpMix F n P ops Q r a' w') (opsAt ops [i]) a w
  | (2, [i]) :: r, a, w => wpListIn F n P ops.toArray (fun e a' w' => e = .normal ∧ wpMix F n P ops Q r a' w') (opsAt ops [i]) a w
  | (3, [i]) :: _, a, w => wpListIn F n P ops.toArray (fun e a' w' => (∃ c, e = .panic c) ∧ Q e a' w') (opsAt ops [i]) a w
  | _ :: _, _, _ => False
def quietB (md : Region.Mode) (ops : List Oper) (M : Nat) : List Nat → Array Bool → Bool
  | [], _ => true
  | i :: l, L => decide (i < M) && decide (i < ops.length) && (Region.ready md ops.toArray L).contains i && Region.free md ops.toArray L i && quietB md ops M l (L.setIfInBounds i true)
def setAll (L : Array Bool) (l : List Nat) : Array Bool := l.foldl (fun L i => L.setIfInBounds i true) L
def mixFrom (md : Region.Mode) (ops : List Oper) (M : Nat) : List (Nat × List Nat) → Array Bool → Bool
  | [], L => Region.ready md ops.toArray L == []
  | (k, l) :: r, L => (if k = 0 then quietB md ops M l L
      else Region.ready md ops.toArray L == l && l.all (fun i => decide (i < ops.length)) && (if k = 2 then l.all fun i => decide (M ≤ i) else true)) && (if k = 3 then true else mixFrom md ops M r (setAll L l))
def lastB (md : Region.Mode) (ops : List Oper) (M : Nat) : Bool := (List.range' M (ops.length - M)).all fun j => (List.range M).all fun i => (depsOf md ops j).contains i

theorem quiet_seg {ops : List Oper} (hfn : ∀ f, F.fn f) (hdef : ∀ (j : Nat) (o : Oper), ops.toArray[j]? = some o → ∀ c, o.op ≠ .defer c) (hsel : ∀ (j : Nat) (o : Oper) cs b, ops.toArray[j]? = some o → o.op ≠ .select cs b) (hQ : ∀ c a a' w, a.defers = a'.defers → Q (.panic c) a w → Q (.panic c) a' w) {M : Nat} (hM : ∀ (i j : Nat) (o : Oper), ops.toArray[j]? = some o → i < M → M ≤ j → ∃ e ∈ o.after, Region.binds md e = true ∧ e.on = i) {w : World} {Qf : Act → Prop} (m : Nat) :
    ∀ (l : List Nat) (L : Array Bool) (a : Act), quietB md ops M l L = true → (∀ a', Qf a' → wpAnyK F n P md ops.toArray Q M m (setAll L l) a' w) → wpQuietIn Fence.still 0 P ops.toArray (fun w' => ∃ q : Since w, w' = q.W) Qf (opsAt ops l) a → wpAnyK F n P md ops.toArray Q M (m + l.length) L a w
  | [], L, a, _, hq, h => hq a h
  | i :: l, L, a, hB, hq, h => by
    simp only [quietB, Bool.and_eq_true, decide_eq_true_eq, List.contains_iff_mem] at hB
    obtain ⟨⟨⟨⟨hiM, hlt⟩, hr⟩, hf⟩, hB⟩ := hB
    have ho : ops[i]? = some ops[i] := List.getElem?_eq_getElem hlt
    have ho' : ops.toArray[i]? = some ops[i] := by rw [List.getElem?_toArray]; exact ho
    rw [opsAt, List.filterMap_cons_some ho] at h
    obtain ⟨v, hy, hK⟩ := still_of_quiet h.2
    have ih := quiet_seg hfn hdef hsel hQ hM m l (L.setIfInBounds i true) (a.put ops[i].dst v) hB (fun a' h' => hq a' h') hK
    rw [List.length_cons, ← Nat.add_assoc]
    exact firstK hfn ho' hiM (fun j o hj h => hM i j o hj hiM h) hdef hsel (fun c a w h => hQ c _ _ w (by cases ops[i].dst <;> rfl) h) (m + l.length) L a w (Region.free_spec ho' hf) hr hy ih
theorem mono_op {ops : List Oper} {i : Nat} {o : Oper} (ho : ops[i]? = some o) {A B : Exit → Act → World → Prop} {K : Act → World → Prop} {a : Act} {w : World} (hA : ∀ e a w, A e a w → (e = .normal ∧ K a w) ∨ ((∃ c, e = .panic c) ∧ B e a w)) (h : wpListIn F n P ops.toArray A [o] a w) : wpOpIn F n P ops.toArray B i K a w := by
  have hN : ∀ a w, A .normal a w → K a w := fun a w h => by
    rcases hA _ _ _ h with ⟨_, h⟩ | ⟨⟨c, e⟩, _⟩
    · exact h
    · cases e
  have hP : ∀ c a w, A (.panic c) a w → B (.panic c) a w := fun c a w h => by
    rcases hA _ _ _ h with ⟨e, _⟩ | ⟨_, h⟩
    · cases e
    · exact h
  have hO : ∀ {p : Prop} a w, A .outgrown a w → p := fun a w h => by
    rcases hA _ _ _ h with ⟨e, _⟩ | ⟨⟨c, e⟩, _⟩ <;> cases e
  unfold wpListIn at h
  unfold wpOpIn
  simp only [List.getElem?_toArray, ho]
  split
  · rename_i hw
    rw [if_pos hw] at h
    obtain ⟨h1, h2⟩ := h
    refine ⟨h1, ?_⟩
    revert h2
    generalize (o.semAt F.round a.eval).run P w = x
    cases x with
    | halt y w2 => cases y <;> simp only [Oper.uponIn] <;> first | exact fun h => h.elim | exact fun h => hP _ _ _ h | (rintro ⟨a, w, h⟩; exact hO _ _ h) | exact fun h => h
    | ok y w2 =>
      cases y <;> simp only [Oper.uponIn]
      case value u => exact fun h => hN _ _ h
      case skip => exact fun h => hN _ _ h
      case defer d => exact fun h => hN _ _ h
      case enter f args =>
        rintro ⟨h3, h4⟩
        refine ⟨h3, CallsIn.mono h4 fun e w'' he => ?_⟩
        cases e with
        | returned u => exact hN _ _ he
        | panicked c => exact hP _ _ _ he
        | outgrown =>
          obtain ⟨_, _, h5⟩ := he
          exact hO _ _ h5
      case row row args =>
        rintro ⟨h3, h4⟩
        exact ⟨h3, RowsIn.mono h4 fun u w'' he => hN _ _ he⟩
      case round l f tmps assign body =>
        rintro ⟨h3, h4⟩
        refine ⟨h3, RoundIn.mono h4 fun e w'' he => ?_⟩
        cases e with
        | returned u => exact hN _ _ he
        | panicked c => exact hP _ _ _ he
        | outgrown =>
          obtain ⟨_, _, h5⟩ := he
          exact hO _ _ h5
      all_goals exact fun h => h.elim
  · rename_i hw
    rw [if_neg hw] at h
    exact ⟨h.1, hN _ _ h.2⟩
theorem wpAnyK_done {M : Nat} {listed : Array Bool} {a : Act} {w : World} (hr : Region.ready md ops listed = []) (h : Q .normal a w) : ∀ fuel, wpAnyK F n P md ops Q M fuel listed a w
  | 0 => ⟨hr, h⟩
  | _ + 1 => ⟨fun _ => h, by rw [hr]; simp⟩
theorem mix_any {ops : List Oper} {M : Nat} (hfn : ∀ f, F.fn f) (hdef : ∀ (j : Nat) (o : Oper), ops.toArray[j]? = some o → ∀ c, o.op ≠ .defer c) (hsel : ∀ (j : Nat) (o : Oper) cs b, ops.toArray[j]? = some o → o.op ≠ .select cs b) (hQ : ∀ c a a' w, a.defers = a'.defers → Q (.panic c) a w → Q (.panic c) a' w)
    (hM : ∀ (i j : Nat) (o : Oper), ops.toArray[j]? = some o → i < M → M ≤ j → ∃ e ∈ o.after, Region.binds md e = true ∧ e.on = i) (segs : List (Nat × List Nat)) :
    ∀ (fuel : Nat) (L : Array Bool) (a : Act) (w : World), (segs.flatMap (·.2)).length ≤ fuel → mixFrom md ops M segs L = true → wpMix F n P ops Q segs a w → wpAnyK F n P md ops.toArray Q M fuel L a w := by
  induction segs with
  | nil =>
    intro fuel L a w _ hB h
    simp only [mixFrom, beq_iff_eq] at hB
    exact wpAnyK_done hB h fuel
  | cons s r ih =>
    intro fuel L a w hf hB h
    obtain ⟨k, l⟩ := s
    rw [mixFrom, Bool.and_eq_true] at hB
    rw [List.flatMap_cons, List.length_append] at hf
    dsimp only at hf
    by_cases hk0 : k = 0
    · subst hk0
      rw [if_pos rfl, if_neg (by decide)] at hB
      unfold wpMix at h
      obtain ⟨m, rfl⟩ : ∃ m, fuel = m + l.length := ⟨fuel - l.length, by omega⟩
      exact quiet_seg hfn hdef hsel hQ hM m l L a hB.1 (fun a' h' => ih m (setAll L l) a' w (by omega) hB.2 h') h
    · rw [if_neg hk0] at hB
      simp only [Bool.and_eq_true, beq_iff_eq, List.all_eq_true, decide_eq_true_eq] at hB
      obtain ⟨⟨⟨hr, hlen⟩, hM2⟩, hB2⟩ := hB
      have hone : ∃ i, l = [i] ∧ (k = 1 ∨ k = 2 ∨ k = 3) := by
        match k, l, h, hk0 with
        | 1, [o], _, _ => exact ⟨o, rfl, .inl rfl⟩
        | 2, [o], _, _ => exact ⟨o, rfl, .inr (.inl rfl)⟩
        | 3, [o], _, _ => exact ⟨o, rfl, .inr (.inr rfl)⟩
        | 0, _, _, h0 => exact absurd rfl h0
        | 1, [], h, _ => exact h.elim
        | 1, _ :: _ :: _, h, _ => exact h.elim
        | 2, [], h, _ => exact h.elim
        | 2, _ :: _ :: _, h, _ => exact h.elim
        | 3, [], h, _ => exact h.elim
        | 3, _ :: _ :: _, h, _ => exact h.elim
        | n + 4, _, h, _ => exact h.elim
      obtain ⟨i, rfl, hk⟩ := hone
      have hlt : i < ops.length := hlen i (by simp)
      have ho : ops[i]? = some ops[i] := List.getElem?_eq_getElem hlt
      obtain ⟨m, rfl⟩ : ∃ m, fuel = m + 1 := ⟨fuel - 1, by simp at hf; omega⟩
      have hopl : opsAt ops [i] = [ops[i]] := by rw [opsAt, List.filterMap_cons_some ho, List.filterMap_nil]
      refine ⟨fun e => (by rw [hr] at e; cases e), fun j hj => ?_⟩
      rw [hr, List.mem_singleton] at hj
      subst hj
      rcases hk with rfl | rfl | rfl
      · rw [if_neg (by decide)] at hB2
        have h' : wpListIn F n P ops.toArray (fun e a' w' => e = .normal ∧ Keeps w w' ∧ wpMix F n P ops Q r a' w') (opsAt ops [j]) a w := h
        rw [hopl] at h'
        exact mono_op ho (fun e a w h => .inl ⟨h.1, fun _ => h.2.1, ih m _ _ _ (by rw [List.length_singleton] at hf; omega) hB2 h.2.2⟩) h'
      · rw [if_neg (by decide)] at hB2
        have h' : wpListIn F n P ops.toArray (fun e a' w' => e = .normal ∧ wpMix F n P ops Q r a' w') (opsAt ops [j]) a w := h
        rw [hopl] at h'
        have hMj : M ≤ j := by simpa using hM2
        exact mono_op ho (fun e a w h => .inl ⟨h.1, fun h' => absurd h' (by omega), ih m _ _ _ (by rw [List.length_singleton] at hf; omega) hB2 h.2⟩) h'
      · have h' : wpListIn F n P ops.toArray (fun e a' w' => (∃ c, e = .panic c) ∧ Q e a' w') (opsAt ops [j]) a w := h
        rw [hopl] at h'
        exact mono_op ho (fun e a w h => .inr h) h'
theorem region_mix {id : Nat} {a : Act} {w : World} {opsl : List Oper} (M : Nat) (segs : List (Nat × List Nat)) (hfn : ∀ f, F.fn f) (hQ : ∀ c a a' w, a.defers = a'.defers → Q (.panic c) a w → Q (.panic c) a' w) (hd : noDefer opsl = true) (hm : P.follows .mixedOrders = true) (hn : Region.noSelect opsl.toArray = true)
    (hB : (mixFrom .any opsl M segs (Array.replicate opsl.length false) && lastB .any opsl M && decide ((segs.flatMap (·.2)).length ≤ opsl.length)) = true) (h : wpMix F n P opsl Q segs a w.drew) : (Code.region id opsl.toArray true).wpIn F n P Q a w := by
  refine wpIn_region_any hm ?_
  simp only [Bool.and_eq_true, decide_eq_true_eq] at hB
  have hM : ∀ (i j : Nat) (o : Oper), opsl.toArray[j]? = some o → i < M → M ≤ j → ∃ e ∈ o.after, Region.binds .any e = true ∧ e.on = i := fun i j o ho hi hj => by
    rw [List.getElem?_toArray] at ho
    have h1 := (List.getElem?_eq_some_iff.1 ho).1
    have h2 := hB.1.2
    simp only [lastB, List.all_eq_true, List.mem_range'_1, List.mem_range, List.contains_iff_mem] at h2
    exact (depsOf_mem ho).1 (h2 j ⟨hj, by omega⟩ i hi)
  have h1 := mix_any (F := F) (n := n) (P := P) (md := .any) (Q := Q) (M := M) hfn (fun j o ho => noDefer_at (l := opsl) (i := j) hd (by simpa using ho)) (Region.noSelect_spec hn) hQ hM segs opsl.length (Array.replicate opsl.length false) a w.drew hB.2 hB.1.1 h
  have h2 := wpAnyK_any _ _ _ _ h1
  simpa using h2
end
end Go.Proofs.Ytidiikmpgpnmpaa
