/-
  ENGINE, fifteenth part: iterators: what is proved of a function that calls yield.
-/
import Derived.Test.YtmiobcnccbfknaaXE
import Derived.Scope
namespace Go.Proofs.Ytmiobcnccbfknaa
open Go.RowKit

/-- A function that is called while this is so of others. -/
theorem calls_runE {P : Program} {f : FuncId} {fn : Func} {c : Code} (args : List Value) {w : World} {R : Ending → World → Prop} (hf : P.funcs[f]? = some fn) (hb : fn.body = some c) (E0 : Ext) (hn : E0.n0 = w.heap.size) (hJ : E0.J w) (N : Nat) (hN : fn.ntmps = N) (ha : args.length ≤ N)
    (h : Run { P := P, lo := w.heap.size, rd := none, n := 2, M := E0.D, B := w, N := N, Q := bodyPostM Fence.wide 2 P fn R, E := E0 } [.code c] ⟨sl0 args, []⟩) : Calls P f args.toArray w R := by
  refine callsIn_wide.1 (callsIn_of_wp_marks (n := 2) hf hb trivial ?_)
  refine h _ w ⟨Mk.none rfl, by simp; omega, fun t v ht => ?_, fun p hp => (by cases hp), List.Pairwise.nil, fun p hp => (by cases hp), Kept.refl _ _, ⟨hJ, fun p hp => (by cases hp), Nat.le_of_eq hn⟩⟩
  have h1 := look_range (f := id) (fun _ _ h => h) ht
  have hlt : t < args.length := (List.getElem?_eq_some_iff.1 h1).1
  have h2 := (List.getElem?_eq_some_iff.1 h1).2
  simp [Array.getElem?_append, hlt, h2]
/-- The end, with what is so of others. -/
theorem run_endE {X : Cx} {k : List KI} {st : St} {fn : Func} {R : Ending → World → Prop} (hQ : X.Q = bodyPostM Fence.wide 2 X.P fn R) (hlo : X.B.heap.size ≤ X.lo) (hk : isRet k = true) (hs : List Nat) (l : List Value) {e : List (Value × Value)} (h : resV X.P st fn.results.toList hs = some (l, e)) (he : EqAll e)
    (hR : ∀ w, Kept X.M X.B w → Hp st.hp w → X.E.J w → R (.returned (resVal l)) w) : Run X k st := by
  intro a w g
  have h2 : bodyPostM Fence.wide 2 X.P fn R .ret a w := by
    obtain ⟨Ds, h1, h2, h3, h4⟩ := g.shut hlo
    show LeavesInM Fence.wide 2 X.P fn a.tmps R a.defers .returning w
    rw [h1]
    exact leave_marks (by simp) h2 h3 fun w' k => ⟨_, results_run (h4 w' k) h he, hR w' (h4 w' k).kp (h4 w' k).Hp (h4 w' k).ex.J⟩
  unfold isRet at hk
  split at hk
  · show X.Q .normal a w
    rw [hQ]
    exact h2
  · rename_i k'
    refine wpIn_ret ?_
    rw [wpK_ret, hQ]
    exact h2
  · cases hk
/-- A return in a round. -/
def isRetQ (k : List KI) : Bool := match k with
  | .code .ret :: _ => true
  | _ => false
theorem run_retQ {X : Cx} {k : List KI} {st : St} (hk : isRetQ k = true) (h : ∀ a w, G X st a w → X.Q .ret a w) : Run X k st := by
  unfold isRetQ at hk
  split at hk
  · intro a w g
    refine wpIn_ret ?_
    rw [wpK_ret]
    exact h a w g
  · cases hk
/-- The end of a round. -/
theorem run_nil {X : Cx} {k : List KI} {st : St} (hk : k.isEmpty = true) (h : ∀ a w, G X st a w → X.Q .normal a w) : Run X k st := by
  cases k with
  | nil => exact h
  | cons _ _ => cases hk

theorem wpK_goto {X : Cx} {l : Nat} : ∀ k : List KI, wpK X k (.goto l) = X.Q (.goto l)
  | [] => rfl
  | .code _ :: k => wpK_goto k
  | .ops _ _ :: k => wpK_goto k
  | .blk _ :: k => wpK_goto k
  | .lp _ :: k => wpK_goto k
def isScope (k : List KI) : Bool := match k with
  | .code (.scope _) :: _ => true
  | _ => false
def scopeK (k : List KI) : List KI := match k with
  | .code (.scope c) :: k => .code c :: k
  | k => k
/-- A scope out of which nobody jumps. -/
theorem run_scope {X : Cx} {k : List KI} {st : St} (hrd : X.rd = none) (hg : ∀ l a w, X.Q (.goto l) a w → False) (hk : isScope k = true) (h : Run X (scopeK k) st) : Run X k st := by
  unfold isScope at hk
  split at hk
  · rename_i c k'
    intro a w g
    have hF : X.F = Fence.wide := by unfold Cx.F; rw [hrd]; rfl
    have h1 : c.wpIn X.F X.n X.P (wpK X k') a w := h a w g
    show (Code.scope c).wpIn X.F X.n X.P (wpK X k') a w
    rw [hF] at h1 ⊢
    refine wpIn_wide.2 (wp_scope_straight (wpIn_wide.1 (wpIn_mono h1 fun e a w he => ?_)))
    cases e with
    | goto l =>
      rw [wpK_goto] at he
      exact hg _ _ _ he
    | _ => exact he
  · cases hk
theorem YieldW.mono {P : Program} {l : Nat} {args : Array Value} {w : World} {R R' : Ending → World → Prop} (h : YieldW P l args w R) (hm : ∀ e w', R e w' → R' e w') : YieldW P l args w R' := by
  obtain ⟨fn, tmps, assign, body, hrun, hround⟩ := h
  exact ⟨fn, tmps, assign, body, hrun, hround.mono fun e w' he => hm e w' he⟩
/-- What yield's caller knows of it. -/
def Ygives (P : Program) (l : Nat) (args : Array Value) (E : Ext) (A B : Ext → Prop) (w : World) : Prop := YieldW P l args w fun e w' => ∃ E', E'.n0 = E.n0 ∧ E'.J w' ∧ Kept E.D w w' ∧ (∀ b, E'.D b → E.D b ∨ w.heap.size ≤ b) ∧ ((e = .returned (.bool true) ∧ A E') ∨ (e = .returned (.bool false) ∧ B E'))
theorem Ygives.of {P : Program} {l : Nat} {args : Array Value} {E : Ext} {A B : Ext → Prop} {w : World} {n : Nat} (h : YieldW P l args w fun e w' => ∃ E', E'.n0 = n ∧ E'.J w' ∧ Kept E.D w w' ∧ (∀ b, E'.D b → E.D b ∨ w.heap.size ≤ b) ∧ ((e = .returned (.bool true) ∧ A E') ∨ (e = .returned (.bool false) ∧ B E'))) (hn : E.n0 = n) : Ygives P l args E A B w := by
  subst hn
  exact h
def Yt (A B : Ext → Prop) (E : Ext) (t : Bool) : Prop := match t with
  | true => A E
  | false => B E
theorem Ygives.out {P : Program} {l : Nat} {args : Array Value} {E : Ext} {A B : Ext → Prop} {w : World} (h : Ygives P l args E A B w) : YieldW P l args w fun e w' => ∃ E' t, Yt A B E' t ∧ E'.n0 = E.n0 ∧ e = .returned (.bool t) ∧ E'.J w' ∧ Kept E.D w w' ∧ ∀ b, E'.D b → E.D b ∨ w.heap.size ≤ b :=
  h.mono fun e w' ⟨E', h1, h2, h3, h4, h5⟩ => by
    rcases h5 with ⟨h5, h6⟩ | ⟨h5, h6⟩
    · exact ⟨E', true, h6, h1, h5, h2, h3, h4⟩
    · exact ⟨E', false, h6, h1, h5, h2, h3, h4⟩
/-- The same in the round of another loop. -/
theorem Ygives.round {P : Program} {l : Nat} {args : Array Value} {E : Ext} {A B : Ext → Prop} {w : World} {l0 : Nat} {o : Obj} {ms : List Nat} (h : Ygives P l args E A B w) (hJ : (rE E l0 o ms).J w) (hl : ¬ E.D l0 ∧ ∀ D ∈ ms, ¬ E.D D) : YieldW P l args w fun e w' => ∃ E' t, (∃ E1, E' = rE E1 l0 o ms ∧ Yt A B E1 t) ∧ E'.n0 = (rE E l0 o ms).n0 ∧ e = .returned (.bool t) ∧ E'.J w' ∧ Kept (rE E l0 o ms).D w w' ∧ ∀ b, E'.D b → (rE E l0 o ms).D b ∨ w.heap.size ≤ b := by
  have hlt : ∀ {b : Nat} {o : Obj}, w.heap[b]? = some o → b < w.heap.size := fun h => (Array.getElem?_eq_some_iff.1 h).1
  refine h.out.mono fun e w' ⟨E', t, h1, h2, h3, h4, h5, h6⟩ => ⟨rE E' l0 o ms, t, ⟨E', rfl, h1⟩, h2, h3, ⟨h4, (h5.block _ (hlt hJ.2.1) hl.1).trans hJ.2.1, fun D hD => (h5.block _ (hlt (hJ.2.2 D hD)) (hl.2 D hD)).trans (hJ.2.2 D hD)⟩, h5.mono fun b hb => .inr (.inr hb), fun b hb => ?_⟩
  rcases hb with hb | hb | hb
  · exact .inl (.inl hb)
  · exact .inl (.inr (.inl hb))
  · exact (h6 b hb).imp_left fun h => .inr (.inr h)
/-- A call of yield, where less than all that others have may turn. -/
theorem run_yield2 {X : Cx} {k : List KI} {st : St} (l : Nat) (args : Array Value) (d : Option Tmp) (h : headSem X.N k st = some (Instr.yield l args, d)) (KD : Nat → Prop) (hKD : ∀ b, KD b → X.E.D b) (hDM : ∀ b, b < X.B.heap.size → KD b → X.M b) (Ok : Ext → Bool → Prop)
    (hy : ∀ w, X.E.J w → Kept X.M X.B w → YieldW X.P l args w fun e w' => ∃ E' t, Ok E' t ∧ E'.n0 = X.E.n0 ∧ e = .returned (.bool t) ∧ E'.J w' ∧ Kept KD w w' ∧ ∀ b, E'.D b → X.E.D b ∨ w.heap.size ≤ b)
    (hr : ∀ E' t, Ok E' t → E'.n0 = X.E.n0 → Run (X.withE E') (nextK k) (st.put d (.bool t))) : Run X k st := by
  intro a w g
  refine head_at h g ?_
  obtain ⟨fn, tmps, assign, body, hrun, hround⟩ := hy w g.ex.J g.kp
  rw [hrun]
  refine hround.mono fun e w' ⟨E', t, hok, hn0, he, hJ, hk, hsub⟩ => ?_
  subst he
  have hlt : ∀ p ∈ st.hp, p.1 < w.heap.size := fun p hp => (Array.getElem?_eq_some_iff.1 (g.hp p hp).1).1
  have g' : G (X.withE E') st a w' := by
    refine ⟨?_, g.sz, g.sl, fun p hp => ⟨(hk.block _ (hlt p hp) (fun h => (g.ex.hp p hp).2 (hKD _ h))).trans (g.hp p hp).1, (g.hp p hp).2⟩, g.ne, g.nd, g.kp.trans hk fun b hb hD => hDM b hb hD, ⟨hJ, fun p hp => ⟨?_, fun hD => ?_⟩, ?_⟩⟩
    · obtain ⟨Ds, h1, h2, h3⟩ := g.df
      refine ⟨Ds, h1, h2, fun D hD => ?_⟩
      obtain ⟨h4, h5, h6, h7⟩ := h3 D hD
      have h8 := (Array.getElem?_eq_some_iff.1 h4).1
      refine ⟨(hk.block D h8 (fun h => h7 (hKD _ h))).trans h4, h5, ?_, fun hE => ?_⟩
      · show E'.n0 ≤ D
        rw [hn0]
        exact h6
      · rcases hsub D hE with h9 | h9
        · exact h7 h9
        · omega
    · show E'.n0 ≤ p.1
      rw [hn0]
      exact (g.ex.hp p hp).1
    · rcases hsub p.1 hD with h9 | h9
      · exact (g.ex.hp p hp).2 h9
      · have := hlt p hp
        omega
    · show E'.n0 ≤ w'.heap.size
      rw [hn0]
      exact Nat.le_trans g.ex.n0 hk.size
  have := hr E' t hok hn0 _ _ (g'.put (X := X.withE E') (headSem_dst h) (.bool t))
  rw [wpK_E] at this
  exact this
/-- A call of the outer yield in the round of another loop. -/
theorem Ygives.round2 {P : Program} {l : Nat} {args : Array Value} {E : Ext} {A B : Ext → Prop} {w : World} {l0 n : Nat} {o : Obj} {ms : List Nat} (h : Ygives P l args E A B w) (hJ : (rE E l0 o ms).J w) (hl : ¬ E.D l0 ∧ ∀ D ∈ ms, ¬ E.D D) (hn : n ≤ w.heap.size) : YieldW P l args w fun e w' => ∃ E' t, (∃ E1, E' = rE E1 l0 o ms ∧ Yt A B E1 t ∧ E1.n0 = E.n0 ∧ ∀ b, E1.D b → E.D b ∨ n ≤ b) ∧ E'.n0 = (rE E l0 o ms).n0 ∧ e = .returned (.bool t) ∧ E'.J w' ∧ Kept E.D w w' ∧ ∀ b, E'.D b → (rE E l0 o ms).D b ∨ w.heap.size ≤ b := by
  have hlt : ∀ {b : Nat} {o : Obj}, w.heap[b]? = some o → b < w.heap.size := fun h => (Array.getElem?_eq_some_iff.1 h).1
  refine h.out.mono fun e w' ⟨E', t, h1, h2, h3, h4, h5, h6⟩ => ⟨rE E' l0 o ms, t, ⟨E', rfl, h1, h2, fun b hb => (h6 b hb).imp_right fun h => Nat.le_trans hn h⟩, h2, h3, ⟨h4, (h5.block _ (hlt hJ.2.1) hl.1).trans hJ.2.1, fun D hD => (h5.block _ (hlt (hJ.2.2 D hD)) (hl.2 D hD)).trans (hJ.2.2 D hD)⟩, h5, fun b hb => ?_⟩
  rcases hb with hb | hb | hb
  · exact .inl (.inl hb)
  · exact .inl (.inr (.inl hb))
  · exact (h6 b hb).imp_left fun h => .inr (.inr h)
/-- What two loops, one in the other, have gone through. -/
def pre2 {α : Type} (f : Nat → Nat → α) (m i j : Nat) : List α := (List.range i).flatMap (fun i => (List.range m).map (f i)) ++ (List.range j).map (f i)
theorem pre2_zero {α : Type} (f : Nat → Nat → α) (m : Nat) : pre2 f m 0 0 = [] := rfl
theorem pre2_next {α : Type} (f : Nat → Nat → α) (m i j : Nat) : pre2 f m i j ++ [f i j] = pre2 f m i (j + 1) := by
  unfold pre2
  rw [List.range_succ, List.map_append, List.append_assoc]
  rfl
theorem pre2_row {α : Type} (f : Nat → Nat → α) (m i : Nat) : pre2 f m i m = pre2 f m (i + 1) 0 := by
  unfold pre2
  rw [List.range_succ, List.flatMap_append]
  simp
theorem pre2_rows {α : Type} (f : Nat → Nat → α) (m : Nat) {i n : Nat} (h : i ≤ n) : pre2 f m i 0 <+: pre2 f m n 0 := by
  obtain ⟨d, rfl⟩ := Nat.exists_eq_add_of_le h
  clear h
  induction d with
  | zero => exact List.prefix_rfl
  | succ d ih =>
    refine ih.trans ?_
    rw [← Nat.add_assoc, ← pre2_row]
    unfold pre2
    simp
theorem pre2_in {α : Type} (f : Nat → Nat → α) (m : Nat) {i j n : Nat} (hi : i < n) (hj : j < m) : pre2 f m i j ++ [f i j] <+: pre2 f m n 0 := by
  rw [pre2_next]
  refine List.IsPrefix.trans ?_ (pre2_rows f m (show i + 1 ≤ n from hi))
  rw [← pre2_row]
  unfold pre2
  obtain ⟨d, hd⟩ := Nat.exists_eq_add_of_le (show j + 1 ≤ m from hj)
  rw [hd, List.range_add, List.map_append, ← List.append_assoc]
  exact List.prefix_append _ _
end Go.Proofs.Ytmiobcnccbfknaa
