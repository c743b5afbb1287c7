/-
  ENGINE, fourth part: calls, new blocks, loops, the beginning and the end.
-/
import Derived.Test.YtmiobcnccbfknaaX3
import Derived.RangeFuncLeaves
import Derived.RangeFuncRecord
namespace Go.Proofs.Ytmiobcnccbfknaa
open Go.RowKit

def hdOp : List KI → Option (Array Oper × Oper)
  | .ops ops (i :: _) :: _ => (ops[i]?).map fun o => (ops, o)
  | _ => none
def nextK : List KI → List KI
  | .ops ops (_ :: l) :: k => .ops ops l :: k
  | k => k
theorem hdOp_is {k : List KI} {ops : Array Oper} {o : Oper} (h : hdOp k = some (ops, o)) : ∃ i l k', k = .ops ops (i :: l) :: k' ∧ ops[i]? = some o := by
  unfold hdOp at h
  split at h
  · rename_i ops' i l k'
    cases ho : ops'[i]? with
    | none => rw [ho] at h; cases h
    | some o' =>
      rw [ho] at h
      injection h with h
      injection h with h1 h2
      subst h1 h2
      exact ⟨i, l, k', rfl, ho⟩
  · cases h
/-- The operation that comes is wanted, and its operands are known; what it does. -/
def headSem (N : Nat) (k : List KI) (st : St) : Option (Sem Next × Option Tmp) :=
  match hdOp k with
  | some (ops, o) =>
    match wantedS ops st o with
    | some true => bif opOk st o && dstOk N o.dst then some (execOp st.ev o, o.dst) else none
    | _ => none
  | none => none
theorem headSem_is {N : Nat} {k : List KI} {st : St} {s : Sem Next} {d : Option Tmp} (h : headSem N k st = some (s, d)) : ∃ ops i l k' o, k = .ops ops (i :: l) :: k' ∧ ops[i]? = some o ∧ wantedS ops st o = some true ∧ opOk st o = true ∧ dstOk N o.dst = true ∧ execOp st.ev o = s ∧ o.dst = d := by
  unfold headSem at h
  cases ho : hdOp k with
  | none => rw [ho] at h; cases h
  | some q =>
    obtain ⟨ops, o⟩ := q
    rw [ho] at h
    dsimp only at h
    obtain ⟨i, l, k', rfl, hi⟩ := hdOp_is ho
    split at h
    · rename_i hw
      cases hb : (opOk st o && dstOk N o.dst) with
      | false => rw [hb] at h; cases h
      | true =>
        rw [hb] at h
        injection h with h
        injection h with h1 h2
        simp only [Bool.and_eq_true] at hb
        exact ⟨ops, i, l, k', o, rfl, hi, hw, hb.1, hb.2, h1, h2⟩
    · cases h
/-- The blocks that are known, in a world. -/
def Hp (hp : List (Nat × Obj)) (w : World) : Prop := ∀ p ∈ hp, w.heap[p.1]? = some p.2
theorem G.Hp {X : Cx} {st : St} {a : Act} {w : World} (g : G X st a w) : Hp st.hp w := fun p hp => (g.hp p hp).1
/-- Whatever the operation that comes does. -/
theorem head_at {X : Cx} {k : List KI} {st : St} {s : Sem Next} {d : Option Tmp} (h : headSem X.N k st = some (s, d)) {a : Act} {w : World} (g : G X st a w) (hr : match s.run X.P w with
    | .ok (.value v) w' => wpK X (nextK k) .normal (a.put d v) w'
    | .ok .skip w' => wpK X (nextK k) .normal (a.put d undef) w'
    | .ok (.enter f args) w' => Calls X.P f args w' fun
      | .returned v, w'' => wpK X (nextK k) .normal (a.put d v) w''
      | .panicked c, w'' => X.Q (.panic c) a w''
      | .outgrown, _ => False
    | .ok (.round l f tmps assign body) w' => RoundIn Fence.wide 0 X.P l f tmps assign body w' fun
      | .returned v, w'' => wpK X (nextK k) .normal (a.put d v) w''
      | .panicked c, w'' => X.Q (.panic c) a w''
      | .outgrown, _ => False
    | .halt (.panic v) w' => X.Q (.panic [{ v, recovered := false }]) a w'
    | _ => False) : wpK X k .normal a w := by
  obtain ⟨ops, i, l, k', o, rfl, hi, hw, hok, hd, rfl, rfl⟩ := headSem_is h
  exact ops_at hi hw hok g hr
theorem headSem_dst {N : Nat} {k : List KI} {st : St} {s : Sem Next} {d : Option Tmp} (h : headSem N k st = some (s, d)) : dstOk N d = true := by
  obtain ⟨ops, i, l, k', o, rfl, hi, hw, hok, hd, rfl, rfl⟩ := headSem_is h
  exact hd

/-- A value that is found by a law. -/
theorem run_v {X : Cx} {k : List KI} {st : St} (s : Sem Next) (d : Option Tmp) (v : Value) (h : headSem X.N k st = some (s, d)) (hq : ∀ w, Kept X.M X.B w → Hp st.hp w → s.run X.P w = .ok (.value v) w) (hr : Run X (nextK k) (st.put d v)) : Run X k st := by
  intro a w g
  refine head_at h g ?_
  rw [hq w g.kp g.Hp]
  exact hr _ _ (g.put (headSem_dst h) _)

def nrun (P : Program) (b : Nat) {α : Type} : Sem α → Option (Obj × α)
  | .program k => nrun P b (k P)
  | .new o k => (qrun P (k b)).map fun x => (o, x)
  | _ => none
theorem nrun_run {P : Program} {α : Type} {s : Sem α} {o : Obj} {x : α} (w : World) (h : nrun P w.heap.size s = some (o, x)) : s.run P w = .ok x (w.alloc o) := by
  induction s with
  | program k ih => exact ih P h
  | new o' k _ =>
    have h : (qrun P (k w.heap.size)).map (fun x => (o', x)) = some (o, x) := h
    cases hq : qrun P (k w.heap.size) with
    | none => rw [hq] at h; cases h
    | some y =>
      rw [hq] at h
      injection h with h
      injection h with h1 h2
      subst h1 h2
      exact qrun_run hq _
  | _ => cases h
def headNew (P : Program) (N : Nat) (b : Nat) (k : List KI) (st : St) : Option (Obj × Value × Option Tmp) :=
  match headSem N k st with
  | some (s, d) => match nrun P b s with
    | some (o, .value v) => bif isDef o then none else some (o, v, d)
    | _ => none
  | none => none
/-- A new block. -/
theorem run_new {X : Cx} {k : List KI} {st : St} (O : Obj) (V : Nat → Value) (d : Option Tmp) (h : ∀ b, headNew X.P X.N b k st = some (O, V b, d)) (hr : ∀ b, X.B.heap.size ≤ b → Run X (nextK k) ((⟨st.sl, (b, O) :: st.hp⟩ : St).put d (V b))) : Run X k st := by
  intro a w g
  have h := h w.heap.size
  unfold headNew at h
  cases hs : headSem X.N k st with
  | none => rw [hs] at h; cases h
  | some q =>
    obtain ⟨s, d'⟩ := q
    rw [hs] at h
    dsimp only at h
    split at h
    · rename_i o v hn
      cases hod : isDef o with
      | true => rw [hod] at h; cases h
      | false =>
        rw [hod] at h
        injection h with h
        injection h with h1 h
        injection h with h2 h3
        subst h1 h2 h3
        have hrun := nrun_run w hn
        refine head_at hs g ?_
        rw [hrun]
        exact hr _ g.kp.size _ _ ((g.alloc _ hod).put (headSem_dst hs) _)
    · cases h

/-- A call. -/
def headCall (P : Program) (N : Nat) (k : List KI) (st : St) : Option (FuncId × Array Value × Option Tmp) :=
  match headSem N k st with
  | some (s, d) => match qrun P s with
    | some (.enter f args) => some (f, args, d)
    | _ => none
  | none => none
theorem headCall_is {P : Program} {N : Nat} {k : List KI} {st : St} {f : FuncId} {args : Array Value} {d : Option Tmp} (h : headCall P N k st = some (f, args, d)) : ∃ s, headSem N k st = some (s, d) ∧ qrun P s = some (.enter f args) := by
  unfold headCall at h
  cases hs : headSem N k st with
  | none => rw [hs] at h; cases h
  | some q =>
    obtain ⟨s, d'⟩ := q
    rw [hs] at h
    dsimp only at h
    split at h
    · rename_i f' args' hq
      injection h with h
      injection h with h1 h
      injection h with h2 h3
      subst h1 h2 h3
      exact ⟨s, rfl, hq⟩
    · cases h
/-- What is known of the blocks behind a call: those that may have turned are the call's own, those that are new are new. -/
structure After (hp hp' : List (Nat × Obj)) (w w' : World) : Prop where
  kp : Kept (fun b => ∃ o, (b, o) ∈ hp) w w'
  hp : ∀ p ∈ hp', w'.heap[p.1]? = some p.2 ∧ ((∃ o, (p.1, o) ∈ hp) ∨ w.heap.size ≤ p.1)
  ne : hp'.Pairwise fun p q => p.1 ≠ q.1
theorem After.same {hp : List (Nat × Obj)} {w w' : World} (h : Hp hp w) (hn : hp.Pairwise fun p q => p.1 ≠ q.1) (k : Keeps w w') : After hp hp w w' :=
  ⟨Kept.of k, fun p hpp => ⟨(k.heap (Array.getElem?_eq_some_iff.1 (h p hpp)).1).trans (h p hpp), .inl ⟨p.2, hpp⟩⟩, hn⟩
/-- New blocks, besides those that are as they were. -/
theorem After.more {hp new : List (Nat × Obj)} {w w' : World} (h : Hp hp w) (hn : hp.Pairwise fun p q => p.1 ≠ q.1) (k : Keeps w w') (h1 : ∀ p ∈ new, w'.heap[p.1]? = some p.2 ∧ w.heap.size ≤ p.1) (h2 : new.Pairwise fun p q => p.1 ≠ q.1) : After hp (new ++ hp) w w' := by
  have hlt : ∀ p ∈ hp, p.1 < w.heap.size := fun p hp => (Array.getElem?_eq_some_iff.1 (h p hp)).1
  refine ⟨Kept.of k, fun p hpp => ?_, List.pairwise_append.2 ⟨h2, hn, fun p hp q hq e => ?_⟩⟩
  · rcases List.mem_append.1 hpp with hp | hp
    · exact ⟨(h1 p hp).1, .inr (h1 p hp).2⟩
    · exact ⟨(k.heap (hlt p hp)).trans (h p hp), .inl ⟨p.2, hp⟩⟩
  · have := (h1 p hp).2
    have := hlt q hq
    omega
theorem G.after {X : Cx} {st : St} {a : Act} {w w' : World} (g : G X st a w) {hp' : List (Nat × Obj)} (h : After st.hp hp' w w') (hnd : ∀ p ∈ hp', isDef p.2 = false) : G X ⟨st.sl, hp'⟩ a w' :=
  ⟨g.df.turn fun D hD => h.kp.block D (Array.getElem?_eq_some_iff.1 hD).1 (fun ⟨o, ho⟩ => by
    have h1 := (g.hp _ ho).1
    have h2 := g.nd _ ho
    dsimp only at h1 h2
    rw [hD] at h1
    injection h1 with h1
    subst h1
    cases h2), g.sz, g.sl, fun p hp => ⟨(h.hp p hp).1, fun hl => by
    rcases (h.hp p hp).2 with ⟨o, ho⟩ | h2
    · exact (g.hp _ ho).2 hl
    · have := g.kp.size
      omega⟩, h.ne, hnd, g.kp.trans h.kp fun b hb ⟨o, ho⟩ => (g.hp _ ho).2 hb, ⟨X.E.stab _ _ g.ex.J (h.kp.mono fun b ⟨o, ho⟩ => g.ex.hp _ ho), fun p hp => by
    rcases (h.hp p hp).2 with ⟨o, ho⟩ | h2
    · exact g.ex.hp (p.1, o) ho
    · exact ⟨Nat.le_trans g.ex.n0 h2, fun hd => absurd (X.E.lt _ _ g.ex.J hd) (Nat.not_lt.2 h2)⟩, Nat.le_trans g.ex.n0 h.kp.size⟩⟩

theorem run_call {X : Cx} {k : List KI} {st : St} (f : FuncId) (args : Array Value) (d : Option Tmp) (h : headCall X.P X.N k st = some (f, args, d)) {α : Type} (V : α → Value) (H : α → List (Nat × Obj)) (I : α → Prop)
    (hc : ∀ w, Kept X.M X.B w → Hp st.hp w → (st.hp.Pairwise fun p q => p.1 ≠ q.1) → Calls X.P f args w fun e w' => ∃ x, I x ∧ e = .returned (V x) ∧ After st.hp (H x) w w')
    (hnd : (∀ p ∈ st.hp, isDef p.2 = false) → ∀ x, I x → ∀ p ∈ H x, isDef p.2 = false) (hr : ∀ x, I x → Run X (nextK k) ((⟨st.sl, H x⟩ : St).put d (V x))) : Run X k st := by
  obtain ⟨s, hs, hq⟩ := headCall_is h
  intro a w g
  refine head_at hs g ?_
  rw [qrun_run hq w]
  refine (hc w g.kp g.Hp g.ne).mono fun e w' ⟨x, hI, he, hk⟩ => ?_
  subst he
  exact hr x hI _ _ ((g.after hk (hnd g.nd x hI)).put (headSem_dst hs) _)
/-- A call that returns a value and keeps all memory. -/
theorem run_ret1 {X : Cx} {k : List KI} {st : St} (f : FuncId) (args : Array Value) (d : Option Tmp) (v : Value) (h : headCall X.P X.N k st = some (f, args, d)) (hc : ∀ w, Kept X.M X.B w → Hp st.hp w → Calls X.P f args w (Ret v w))
    (hr : Run X (nextK k) (st.put d v)) : Run X k st :=
  run_call f args d h (fun _ : Unit => v) (fun _ => st.hp) (fun _ => True) (fun w k1 k2 k3 => (hc w k1 k2).mono fun _ _ ⟨he, hk⟩ => ⟨(), trivial, he, .same k2 k3 hk⟩) (fun h _ _ => h) (fun _ _ => hr)
/-- What a world turns into when the marks are taken off. -/
structure Shut (Ds : List Nat) (w w' : World) : Prop where
  os : w'.os = w.os
  tape : w'.tape = w.tape
  output : w'.output = w.output
  size : w'.heap.size = w.heap.size
  block : ∀ k, k ∉ Ds → w'.heap[k]? = w.heap[k]?
theorem leave_marks {F : Fence} {n : Nat} {P : Program} {fn : Func} {tmps : Array Value} {R : Ending → World → Prop} {u : FrameMode} (hu : u ≠ .run) : ∀ {Ds : List Nat} {w : World}, Ds.Nodup → (∀ D ∈ Ds, w.heap[D]? = some (.deferred (some []))) → (∀ w', Shut Ds w w' → LeavesIn F n P fn tmps R [] u w') → LeavesInM F n P fn tmps R (Ds.map mark) u w
  | [], w, _, _, h => h w ⟨rfl, rfl, rfl, rfl, fun _ _ => rfl⟩
  | D :: Ds, w, hn, hd, h => by
    rw [List.nodup_cons] at hn
    refine ⟨hu, .inl ⟨D, _, rfl, run_takeDeferred (hd D List.mem_cons_self), leave_marks hu hn.2 (fun E hE => ?_) fun w' k => h w' ⟨k.os, k.tape, k.output, by rw [k.size]; simp [World.putObj], fun i hi => ?_⟩⟩⟩
    · have hne : E ≠ D := fun e => hn.1 (e ▸ hE)
      exact (World.putObj_heap_other hne).trans (hd E (List.mem_cons_of_mem _ hE))
    · have hne : i ≠ D := fun e => hi (e ▸ List.mem_cons_self)
      exact (k.block i fun hm => hi (List.mem_cons_of_mem _ hm)).trans (World.putObj_heap_other hne)
theorem G.shut {X : Cx} {st : St} {a : Act} {w : World} (g : G X st a w) (hlo : X.B.heap.size ≤ X.lo) : ∃ Ds : List Nat, a.defers = Ds.map mark ∧ Ds.Nodup ∧ (∀ D ∈ Ds, w.heap[D]? = some (.deferred (some []))) ∧ ∀ w', Shut Ds w w' → G X st { a with defers := [] } w' := by
  obtain ⟨Ds, h1, h2, h3⟩ := g.df
  refine ⟨Ds, h1, h2, fun D hD => (h3 D hD).1, fun w' k => ⟨Mk.none rfl, g.sz, g.sl, fun p hp => ⟨(k.block p.1 fun hD => ?_).trans (g.hp p hp).1, (g.hp p hp).2⟩, g.ne, g.nd, ⟨k.os.trans g.kp.os, k.tape.trans g.kp.tape, k.output.trans g.kp.output, by rw [k.size]; exact g.kp.size, fun i hi hm => (k.block i fun hD => by have := (h3 _ hD).2.1; omega).trans (g.kp.block i hi hm)⟩, ⟨X.E.stab _ _ g.ex.J ⟨k.os, k.tape, k.output, Nat.le_of_eq k.size.symm, fun i _ hm => k.block i fun hD => hm ⟨(h3 _ hD).2.2.1, (h3 _ hD).2.2.2⟩⟩, g.ex.hp, by rw [k.size]; exact g.ex.n0⟩⟩⟩
  have h4 := (g.hp p hp).1
  have h5 := g.nd p hp
  rw [(h3 _ hD).1] at h4
  injection h4 with h4
  rw [← h4] at h5
  cases h5
/-- The end by a panic. -/
theorem g_panic {X : Cx} {st : St} {a : Act} {w : World} (g : G X st a w) (hlo : X.B.heap.size ≤ X.lo) {fn : Func} {R : Ending → World → Prop} (hQ : X.Q = bodyPostM Fence.wide 2 X.P fn R) {c : List PanicEntry} (hR : ∀ w, Kept X.M X.B w → Hp st.hp w → R (.panicked c) w) : X.Q (.panic c) a w := by
  rw [hQ]
  obtain ⟨Ds, h1, h2, h3, h4⟩ := g.shut hlo
  show LeavesInM Fence.wide 2 X.P fn a.tmps R a.defers (.panicking c) w
  rw [h1]
  exact leave_marks (by simp) h2 h3 fun w' k => hR w' (h4 w' k).kp (h4 w' k).Hp
/-- A call that panics. -/
theorem run_panics {X : Cx} {k : List KI} {st : St} {fn : Func} {R : Ending → World → Prop} (hQ : X.Q = bodyPostM Fence.wide 2 X.P fn R) (hlo : X.B.heap.size ≤ X.lo) (f : FuncId) (args : Array Value) (d : Option Tmp) (c : List PanicEntry) (h : headCall X.P X.N k st = some (f, args, d)) (hc : ∀ w, Kept X.M X.B w → Hp st.hp w → Calls X.P f args w fun e w' => e = .panicked c ∧ Keeps w w')
    (hR : ∀ w, Kept X.M X.B w → Hp st.hp w → R (.panicked c) w) : Run X k st := by
  obtain ⟨s, hs, hq⟩ := headCall_is h
  intro a w g
  refine head_at hs g ?_
  rw [qrun_run hq w]
  refine (hc w g.kp g.Hp).mono fun e w' ⟨he, hk⟩ => ?_
  subst he
  exact g_panic (g.world hk) hlo hQ hR
/-- A panic. -/
theorem run_panic {X : Cx} {k : List KI} {st : St} {fn : Func} {R : Ending → World → Prop} (hQ : X.Q = bodyPostM Fence.wide 2 X.P fn R) (hlo : X.B.heap.size ≤ X.lo) (s : Sem Next) (d : Option Tmp) (v : Value) (h : headSem X.N k st = some (s, d)) (hq : ∀ w, s.run X.P w = .halt (.panic v) w)
    (hR : ∀ w, Kept X.M X.B w → Hp st.hp w → R (.panicked [{ v, recovered := false }]) w) : Run X k st := by
  intro a w g
  refine head_at h g ?_
  rw [hq w]
  exact g_panic g hlo hQ hR

/-- A condition that is not known. -/
def headCond (k : List KI) (st : St) : Option Value :=
  match k with
  | .code (.cond c _ _) :: _ => bif (match c with | .tmp t => (look st.sl t).isSome | _ => true) then some (st.ev c) else none
  | _ => none
theorem run_cond {X : Cx} {k : List KI} {st : St} (t : Bool) (h : headCond k st = some (.bool t)) (h1 : t = true → Run X (adv 1 [true] k) st) (h2 : t = false → Run X (adv 1 [false] k) st) : Run X k st := by
  unfold headCond at h
  split at h
  · rename_i c x y k'
    cases hc : (match c with | .tmp t => (look st.sl t).isSome | _ => true) with
    | false => rw [hc] at h; cases h
    | true =>
      rw [hc] at h
      injection h with h
      intro a w g
      refine wpIn_cond ((g.eval hc).trans h) ?_
      cases t with
      | true => exact h1 rfl a w g
      | false => exact h2 rfl a w g
  · cases h

theorem wpK_ret {X : Cx} : ∀ (k : List KI), wpK X k .ret = X.Q .ret
  | [] => rfl
  | .code _ :: k => wpK_ret k
  | .ops _ _ :: k => wpK_ret k
  | .blk _ :: k => wpK_ret k
  | .lp _ :: k => wpK_ret k
/-- The results, as they are known. hs: in which blocks they lie. -/
def resV (P : Program) (st : St) : List ResultVar → List Nat → Option (List Value × List (Value × Value))
  | [], _ => some ([], [])
  | .tmp t :: r, hs => match look st.sl t, resV P st r hs with
    | some v, some (l, e) => some (v :: l, e)
    | _, _ => none
  | .cell t ty :: r, j :: hs => match look st.sl t, st.hp[j]? with
    | some (.pointer (some ⟨b, off, none⟩)), some (b', .cells c _ _) =>
      match loadV P ty c.toList off, resV P st r hs with
      | some v, some (l, e) => some (v :: l, (.pointer (some ⟨b, 0, none⟩), .pointer (some ⟨b', 0, none⟩)) :: e)
      | _, _ => none
    | _, _ => none
  | _, _ => none
def resVal (l : List Value) : Value := match l with
  | [v] => v
  | l => .tuple l.toArray
theorem resV_run {X : Cx} {st : St} {a : Act} {w : World} (g : G X st a w) : ∀ {r : List ResultVar} {hs : List Nat} {l : List Value} {e : List (Value × Value)}, resV X.P st r hs = some (l, e) → EqAll e →
    (r.mapM fun
    | .tmp t => pure (a.tmps.getD t undef)
    | .cell x t => do loadVar t (← asAddr (a.tmps.getD x undef)) : Sem (List Value)).run X.P w = .ok l w
  | [], hs, l, e, h, he => by
    injection h with h
    injection h with h1 h2
    subst h1
    simp
  | .tmp t :: r, hs, l, e, h, he => by
    unfold resV at h
    split at h
    · rename_i v l1 e1 h1 h2
      injection h with h
      injection h with h3 h4
      subst h3 h4
      have h5 := resV_run g h2 he
      have h6 := g.sl t v h1
      simp only [List.mapM_cons, Sem.run_bind, Sem.run_pure, Result.andThen, h5]
      simp [h6]
    · cases h
  | .cell t ty :: r, [], l, e, h, he => by
    unfold resV at h
    cases h
  | .cell t ty :: r, j :: hs, l, e, h, he => by
    unfold resV at h
    split at h
    · rename_i b off b' c e0 fr h1 h2
      split at h
      · rename_i v l1 e1 h3 h4
        injection h with h
        injection h with h5 h6
        subst h5 h6
        obtain ⟨he1, he2⟩ := he
        have hbb := value_ptr he1
        subst hbb
        have h7 := resV_run g h4 he2
        have h8 := g.sl t _ h1
        have hb := g.hp _ (List.mem_of_getElem? h2)
        have hb1 : w.heap[b]? = some (.cells c.toList.toArray e0 fr) := by simpa using hb.1
        have hl := load_cells (P := X.P) (w := w) (t := ty) (base := 0) (fun i u hi => by rw [Nat.zero_add]; exact cells_of_heap hb1 i u hi) h3
        rw [Nat.zero_add] at hl
        have h9 : (asAddr (a.tmps.getD t undef)).run X.P w = .ok ⟨b, off, none⟩ w := by
          rw [Array.getD_eq_getD_getElem?, h8]
          simp [asAddr]
        have h10 : (loadVar ty ⟨b, off, none⟩).run X.P w = .ok v w := by
          simpa [Instr.loadAt, Instr.sureAddr] using hl
        simp only [List.mapM_cons, Sem.run_bind, Sem.run_pure, Result.andThen, h7, h9, h10]
      · cases h
    · cases h
theorem results_run {X : Cx} {st : St} {a : Act} {w : World} (g : G X st a w) {fn : Func} {hs : List Nat} {l : List Value} {e : List (Value × Value)} (h : resV X.P st fn.results.toList hs = some (l, e)) (he : EqAll e) : (results fn a.tmps).run X.P w = .ok (resVal l) w := by
  have h1 := resV_run g h he
  have h2 : ∀ s : Sem (List Value), s.run X.P w = .ok l w → ((do let vs ← (List.toArray <$> s); pure (if h : vs.size = 1 then vs[0] else .tuple vs)) : Sem Value).run X.P w = .ok (resVal l) w := by
    intro s hs
    simp only [Sem.run_bind, Sem.run_map, hs, Result.andThen, Sem.run_pure]
    congr 1
    match l with
    | [] => rfl
    | [v] => rfl
    | v :: u :: r => simp [resVal]
  unfold results
  rw [Array.mapM_eq_mapM_toList]
  exact h2 _ h1

def isRet (k : List KI) : Bool :=
  match k with
  | [] | .code .ret :: _ => true
  | _ => false
/-- The end. -/
theorem run_end {X : Cx} {k : List KI} {st : St} {fn : Func} {R : Ending → World → Prop} (hQ : X.Q = bodyPostM Fence.wide 2 X.P fn R) (hlo : X.B.heap.size ≤ X.lo) (hk : isRet k = true) (hs : List Nat) (l : List Value) {e : List (Value × Value)} (h : resV X.P st fn.results.toList hs = some (l, e)) (he : EqAll e)
    (hR : ∀ w, Kept X.M X.B w → Hp st.hp w → R (.returned (resVal l)) w) : Run X k st := by
  intro a w g
  have h2 : bodyPostM Fence.wide 2 X.P fn R .ret a w := by
    obtain ⟨Ds, h1, h2, h3, h4⟩ := g.shut hlo
    show LeavesInM Fence.wide 2 X.P fn a.tmps R a.defers .returning w
    rw [h1]
    exact leave_marks (by simp) h2 h3 fun w' k => ⟨_, results_run (h4 w' k) h he, hR w' (h4 w' k).kp (h4 w' k).Hp⟩
  unfold isRet at hk
  split at hk
  · show X.Q .normal a w
    rw [hQ]
    exact h2
  · rename_i k'
    refine wpIn_ret ?_
    rw [wpK_ret, hQ]
    exact h2
  · cases hk

/-- The beginning. -/
def sl0 (args : List Value) : List (Nat × Value) := (List.range args.length).filterMap fun i => (args[i]?).map fun v => (i, v)
theorem look_range {args : List Value} {f : Nat → Nat} (hf : ∀ i j, f i = f j → i = j) : ∀ {is : List Nat} {t : Nat} {v : Value}, look (is.filterMap fun i => (args[i]?).map fun v => (i, v)) t = some v → args[t]? = some v
  | [], t, v, h => by cases h
  | i :: is, t, v, h => by
    rw [List.filterMap_cons] at h
    cases hi : args[i]? with
    | none => rw [hi] at h; exact look_range hf (is := is) h
    | some u =>
      rw [hi] at h
      have h : (bif i == t then some u else look _ t) = some v := h
      by_cases e : i = t
      · subst e
        simp at h
        rw [hi, h]
      · have : (i == t) = false := by simpa using e
        rw [this] at h
        exact look_range hf (is := is) h
theorem calls_run {P : Program} {f : FuncId} {fn : Func} {c : Code} (args : List Value) {w : World} {R : Ending → World → Prop} (hf : P.funcs[f]? = some fn) (hb : fn.body = some c) (M : Nat → Prop) (hp : List (Nat × Obj)) (hh : ∀ p ∈ hp, w.heap[p.1]? = some p.2 ∧ M p.1 ∧ isDef p.2 = false) (hn : hp.Pairwise fun p q => p.1 ≠ q.1) (N : Nat) (hN : fn.ntmps = N) (ha : args.length ≤ N)
    (h : Run { P := P, lo := w.heap.size, rd := none, n := 2, M := M, B := w, N := N, Q := bodyPostM Fence.wide 2 P fn R } [.code c] ⟨sl0 args, hp⟩) : Calls P f args.toArray w R := by
  refine callsIn_wide.1 (callsIn_of_wp_marks (n := 2) hf hb trivial ?_)
  refine h _ w ⟨Mk.none rfl, by simp; omega, fun t v ht => ?_, fun p hp => ⟨(hh p hp).1, fun _ => (hh p hp).2.1⟩, hn, fun p hp => (hh p hp).2.2, Kept.refl _ _, GE.none _ _⟩
  have h1 := look_range (f := id) (fun _ _ h => h) ht
  have hlt : t < args.length := (List.getElem?_eq_some_iff.1 h1).1
  have h2 := (List.getElem?_eq_some_iff.1 h1).2
  simp [Array.getElem?_append, hlt, h2]
end Go.Proofs.Ytmiobcnccbfknaa
