/-
  ENGINE: the operations of a function run by the kernel on a state that is written out: slots, and the blocks that the call itself made. Nothing here speaks of a program.
-/
import Derived.Test.YtmiobcnccbfknaaK
import Derived.OrdersIn
import Derived.RangeFuncCalls
import Derived.Outline
import Derived.KernelRfl
import Derived.NoCompiler
namespace Go.Proofs.Ytmiobcnccbfknaa
open Go.RowKit

/-- But for the blocks of M all blocks of B are as they were. -/
structure Kept (M : Nat → Prop) (B w : World) : Prop where
  os : w.os = B.os
  tape : w.tape = B.tape
  output : w.output = B.output
  size : B.heap.size ≤ w.heap.size
  block : ∀ k, k < B.heap.size → ¬ M k → w.heap[k]? = B.heap[k]?
theorem Kept.refl (M : Nat → Prop) (w : World) : Kept M w w := ⟨rfl, rfl, rfl, Nat.le_refl _, fun _ _ _ => rfl⟩
theorem Kept.keeps {M : Nat → Prop} {B w : World} (h : Kept M B w) (hM : ∀ k, ¬ M k) : Keeps B w := ⟨h.os, h.tape, h.output, h.size, fun k hk => h.block k hk (hM k)⟩
theorem Kept.of {M : Nat → Prop} {B w : World} (h : Keeps B w) : Kept M B w := ⟨h.os, h.tape, h.output, h.size, fun k hk _ => h.block k hk⟩
theorem Kept.trans {M M' : Nat → Prop} {A B C : World} (h : Kept M A B) (h' : Kept M' B C) (hm : ∀ k, k < A.heap.size → M' k → M k) : Kept M A C :=
  ⟨h'.os.trans h.os, h'.tape.trans h.tape, h'.output.trans h.output, Nat.le_trans h.size h'.size, fun k hk hn => (h'.block k (Nat.lt_of_lt_of_le hk h.size) (fun m => hn (hm k hk m))).trans (h.block k hk hn)⟩
theorem Kept.then {M : Nat → Prop} {A B C : World} (h : Kept M A B) (h' : Keeps B C) : Kept M A C := h.trans (Kept.of (M := fun _ => False) h') (fun _ _ h => h.elim)
theorem Kept.mono {M M' : Nat → Prop} {A B : World} (h : Kept M A B) (hm : ∀ k, M k → M' k) : Kept M' A B := ⟨h.os, h.tape, h.output, h.size, fun k hk hn => h.block k hk (fun m => hn (hm k m))⟩
/-- A cell of B that is not M's. -/
theorem Kept.cell {M : Nat → Prop} {B w : World} (h : Kept M B w) {b o : Nat} {v : Value} (hc : B.cell? ⟨b, o, none⟩ = some v) (hm : ¬ M b) : w.cell? ⟨b, o, none⟩ = some v :=
  (World.cell?_of_block (w := B) (h.block b (lt_of_cell hc) hm)).trans hc

/-- What is known: slots, and the call's own blocks. -/
structure St where
  sl : List (Nat × Value)
  hp : List (Nat × Obj)
def look : List (Nat × Value) → Nat → Option Value
  | [], _ => none
  | (s, v) :: r, t => bif s == t then some v else look r t
def St.ev (st : St) : Operand → Value
  | .tmp t => (look st.sl t).getD undef
  | .const v => v
  | .global g => .pointer (some ⟨g, 0, none⟩)
  | .func f => .func (.func f) #[] #[]
def St.put (st : St) : Option Tmp → Value → St
  | some d, v => ⟨(d, v) :: st.sl, st.hp⟩
  | none, _ => st

inductive KI where
  | code (c : Code)
  | ops (o : Array Oper) (l : List Nat)
  | blk (id : Nat)
  | lp (J : Act → World → Prop)

/-- What is so of others while a function goes on that calls yield: D: their blocks; J: what holds, whatever the function does to blocks of its own (those from n0 on that are not theirs). -/
structure Ext where
  D : Nat → Prop
  n0 : Nat
  J : World → Prop
  stab : ∀ w w', J w → Kept (fun b => n0 ≤ b ∧ ¬ D b) w w' → J w'
  lt : ∀ w b, J w → D b → b < w.heap.size
def Ext.none : Ext := ⟨fun _ => False, 0, fun _ => True, fun _ _ _ _ => trivial, fun _ _ _ h => h.elim⟩
/-- It holds, and the known blocks are the function's own. -/
structure GE (E : Ext) (hp : List (Nat × Obj)) (w : World) : Prop where
  J : E.J w
  hp : ∀ p ∈ hp, E.n0 ≤ p.1 ∧ ¬ E.D p.1
  n0 : E.n0 ≤ w.heap.size
theorem GE.none (hp : List (Nat × Obj)) (w : World) : GE Ext.none hp w := ⟨trivial, fun _ _ => ⟨Nat.zero_le _, fun h => h⟩, Nat.zero_le _⟩
theorem GE.keeps {E : Ext} {hp : List (Nat × Obj)} {w w' : World} (h : GE E hp w) (k : Keeps w w') : GE E hp w' := ⟨E.stab _ _ h.J (Kept.of k), h.hp, Nat.le_trans h.n0 k.size⟩

/-- In what a function is gone through. lo: marks of loops over functions lie from there on. -/
structure Cx where
  P : Program
  lo : Nat
  rd : Option Nat
  n : Nat
  M : Nat → Prop
  B : World
  N : Nat
  Q : Exit → Act → World → Prop
  E : Ext := Ext.none
def Cx.F (X : Cx) : Fence := { Fence.wide with round := X.rd }

def mark (D : Nat) : Deferred := { target := .collected D, args := #[] }
def isDef : Obj → Bool
  | .deferred _ | .loop _ => true
  | _ => false
/-- The deferred calls of an activation: marks alone. -/
def Mk (E : Ext) (lo : Nat) (a : Act) (w : World) : Prop := ∃ Ds : List Nat, a.defers = Ds.map mark ∧ Ds.Nodup ∧ ∀ D ∈ Ds, w.heap[D]? = some (.deferred (some [])) ∧ lo ≤ D ∧ E.n0 ≤ D ∧ ¬ E.D D
theorem Mk.none {E : Ext} {lo : Nat} {a : Act} {w : World} (h : a.defers = []) : Mk E lo a w := ⟨[], h, List.nodup_nil, fun _ h => by cases h⟩
/-- What is no mark may turn. -/
theorem Mk.turn {E : Ext} {lo : Nat} {a : Act} {w w' : World} (h : Mk E lo a w) (hw : ∀ D : Nat, w.heap[D]? = some (Obj.deferred (some [])) → w'.heap[D]? = w.heap[D]?) : Mk E lo a w' := by
  obtain ⟨Ds, h1, h2, h3⟩ := h
  exact ⟨Ds, h1, h2, fun D hD => ⟨(hw D (h3 D hD).1).trans (h3 D hD).1, (h3 D hD).2⟩⟩
structure G (X : Cx) (st : St) (a : Act) (w : World) : Prop where
  df : Mk X.E X.lo a w
  sz : a.tmps.size = X.N
  sl : ∀ t v, look st.sl t = some v → a.tmps[t]? = some v
  hp : ∀ p ∈ st.hp, w.heap[p.1]? = some p.2 ∧ (p.1 < X.B.heap.size → X.M p.1)
  ne : st.hp.Pairwise fun p q => p.1 ≠ q.1
  nd : ∀ p ∈ st.hp, isDef p.2 = false
  kp : Kept X.M X.B w
  ex : GE X.E st.hp w

def wpK (X : Cx) : List KI → Exit → Act → World → Prop
  | [] => X.Q
  | .code c :: k => Exit.then (fun a w => c.wpIn X.F X.n X.P (wpK X k) a w) (wpK X k)
  | .ops o l :: k => Exit.then (fun a w => wpOpsIn X.F X.n X.P o (wpK X k) l a w) (wpK X k)
  | .blk id :: k => Exit.inBlock id (wpK X k)
  | .lp J :: k => Exit.then J (wpK X k)

/-- From this state on all goes well. -/
def Run (X : Cx) (k : List KI) (st : St) : Prop := ∀ a w, G X st a w → wpK X k .normal a w

theorem G.eval {X : Cx} {st : St} {a : Act} {w : World} (h : G X st a w) {x : Operand} (hx : (match x with | .tmp t => (look st.sl t).isSome | _ => true) = true) : a.eval x = st.ev x := by
  cases x with
  | tmp t =>
    obtain ⟨v, hv⟩ := Option.isSome_iff_exists.1 hx
    have := h.sl t v hv
    simp [Act.eval, St.ev, hv, this]
  | const v => rfl
  | global g => rfl
  | func f => rfl

/-- All operands are known, and it is no select or defer statement. -/
def opOk (st : St) (o : Oper) : Bool :=
  match o.op with
  | .select .. => false
  | .defer _ => false
  | op => op.operands.toList.all fun x => match x with | .tmp t => (look st.sl t).isSome | _ => true
theorem opOk_spec {st : St} {o : Oper} (h : opOk st o = true) : (∀ cs b, o.op ≠ .select cs b) ∧ (∀ c, o.op ≠ .defer c) ∧ ∀ x ∈ o.op.operands, (match x with | .tmp t => (look st.sl t).isSome | _ => true) = true := by
  unfold opOk at h
  obtain ⟨dst, op, type, pos, after, guard⟩ := o
  dsimp only at h ⊢
  cases op <;> first
    | cases h; done
    | exact ⟨fun _ _ e => (by cases e), fun _ e => (by cases e), fun x hx => List.all_eq_true.1 h x (Array.mem_toList_iff.2 hx)⟩
theorem G.exec {X : Cx} {st : St} {a : Act} {w : World} (h : G X st a w) {o : Oper} (ho : opOk st o = true) : execOp a.eval o = execOp st.ev o := by
  obtain ⟨h1, _, h3⟩ := opOk_spec ho
  exact execOp_congr o h1 fun x hx => h.eval (h3 x hx)

def wantedS (ops : Array Oper) (st : St) (o : Oper) : Option Bool :=
  match o.guard with
  | none => some true
  | some (j, want) =>
    match (ops[j]?).bind (·.dst) with
    | none => none
    | some d => match look st.sl d with
      | some (.bool b) => some (b == want)
      | some _ => some false
      | none => none
theorem G.wanted {X : Cx} {st : St} {a : Act} {w : World} (h : G X st a w) {ops : Array Oper} {o : Oper} {t : Bool} (ht : wantedS ops st o = some t) : Region.wanted o (yielded ops a.tmps) = t := by
  unfold wantedS at ht
  unfold Region.wanted
  cases hg : o.guard with
  | none => rw [hg] at ht; injection ht
  | some jw =>
    obtain ⟨j, want⟩ := jw
    rw [hg] at ht
    dsimp only at ht ⊢
    unfold yielded
    cases hd : (ops[j]?).bind (·.dst) with
    | none => rw [hd] at ht; cases ht
    | some d =>
      rw [hd] at ht
      dsimp only at ht
      cases hl : look st.sl d with
      | none => rw [hl] at ht; cases ht
      | some v =>
        rw [hl] at ht
        have := h.sl d v hl
        rw [Option.bind_some, this]
        cases v with
        | bool b => simp at ht; cases b <;> cases want <;> cases t <;> simp_all
        | _ => simp at ht; subst ht; rfl

def qrun (P : Program) {α : Type} : Sem α → Option α
  | .pure a => some a
  | .program k => qrun P (k P)
  | _ => none
theorem qrun_run {P : Program} {α : Type} {s : Sem α} {x : α} (h : qrun P s = some x) (w : World) : s.run P w = .ok x w := by
  induction s with
  | pure a => injection h with h; subst h; rfl
  | program k ih => exact ih P h
  | _ => cases h

theorem look_put {st : St} {d : Nat} {v : Value} {t : Nat} {u : Value} (h : look (st.put (some d) v).sl t = some u) : (d = t ∧ v = u) ∨ (d ≠ t ∧ look st.sl t = some u) := by
  have h' : (bif d == t then some v else look st.sl t) = some u := h
  by_cases e : d = t
  · subst e
    simp at h'
    exact .inl ⟨rfl, h'⟩
  · have : (d == t) = false := by simpa using e
    rw [this] at h'
    exact .inr ⟨e, h'⟩

/-- A slot that there is. -/
def dstOk (N : Nat) : Option Tmp → Bool
  | some d => decide (d < N)
  | none => true

theorem G.put {X : Cx} {st : St} {a : Act} {w : World} (h : G X st a w) {d : Option Tmp} (hd : dstOk X.N d = true) (v : Value) : G X (st.put d v) (a.put d v) w := by
  cases d with
  | none => exact h
  | some d =>
    have hd : d < X.N := by simpa [dstOk] using hd
    refine ⟨h.df, by simp [Act.put, h.sz], fun t u hu => ?_, h.hp, h.ne, h.nd, h.kp, h.ex⟩
    rcases look_put hu with ⟨rfl, rfl⟩ | ⟨hne, hu⟩
    · have : d < a.tmps.size := by rw [h.sz]; exact hd
      simp [Act.put, this]
    · have := h.sl t u hu
      simp [Act.put, Array.getElem?_setIfInBounds_ne hne, this]

/-- The world may turn where nothing that is known hangs on it. -/
theorem G.world {X : Cx} {st : St} {a : Act} {w w' : World} (h : G X st a w) (k : Keeps w w') : G X st a w' :=
  ⟨h.df.turn fun D hD => k.heap (Array.getElem?_eq_some_iff.1 hD).1, h.sz, h.sl, fun p hp => ⟨(k.heap (by
    have := (h.hp p hp).1
    exact (Array.getElem?_eq_some_iff.1 this).1)).trans (h.hp p hp).1, (h.hp p hp).2⟩, h.ne, h.nd, h.kp.then k, h.ex.keeps k⟩

/-- One operation, without a fence. -/
def OpR (P : Program) (ρ : Operand → Value) (o : Oper) (w : World) (next : Value → World → Prop) (bad : List PanicEntry → World → Prop) : Prop :=
  match (execOp ρ o).run P w with
  | .ok (.value v) w' => next v w'
  | .ok .skip w' => next undef w'
  | .ok (.enter f args) w' => Calls P f args w' fun
      | .returned v, w'' => next v w''
      | .panicked c, w'' => bad c w''
      | .outgrown, _ => False
  | .ok (.round l f tmps assign body) w' => RoundIn Fence.wide 0 P l f tmps assign body w' fun
      | .returned v, w'' => next v w''
      | .panicked c, w'' => bad c w''
      | .outgrown, _ => False
  | .halt (.panic v) w' => bad [{ v, recovered := false }] w'
  | _ => False

theorem OpR.wpIn {X : Cx} {o : Oper} {a : Act} {w : World} {next : Act → World → Prop} {Q : Exit → Act → World → Prop} (hd : ∀ c, o.op ≠ .defer c)
    (h : OpR X.P a.eval o w (fun v w' => next (a.put o.dst v) w') (fun c w' => Q (.panic c) a w')) : o.wpIn X.F X.n X.P a w next Q := by
  refine ⟨fun _ _ => trivial, ?_⟩
  rw [Oper.semAt_eq _ _ _ hd]
  unfold OpR at h
  revert h
  cases (execOp a.eval o).run X.P w with
  | ok x w' =>
    cases x <;> simp only [Oper.uponIn] <;> first
      | exact fun h => h
      | exact fun h => False.elim h
      | skip
    case enter f args =>
      intro h
      refine ⟨fun h => by simp [Cx.F, Fence.wide] at h, ?_⟩
      have h2 : CallsIn Fence.wide (X.n - 1) X.P f args w' _ := callsIn_wide.2 h
      refine CallsIn.mono (F := X.F) h2 fun e w'' he => ?_
      cases e with
      | returned v => exact he
      | panicked c => exact he
      | outgrown => exact he.elim
    case round l f tmps assign body =>
      intro h
      refine ⟨fun h => by simp [Cx.F, Fence.wide] at h, ?_⟩
      refine RoundIn.mono (F := X.F) (R := fun
        | .returned v, w'' => next (a.put o.dst v) w''
        | .panicked c, w'' => Q (.panic c) a w''
        | .outgrown, _ => False) ⟨trivial, fun c cs _ => h.2 c cs (room_wide _)⟩ fun e w'' he => ?_
      cases e with
      | returned v => exact he
      | panicked c => exact he
      | outgrown => exact he.elim
  | halt x w' =>
    cases x <;> simp only [Oper.uponIn] <;> first
      | exact fun h => h
      | exact fun h => False.elim h

end Go.Proofs.Ytmiobcnccbfknaa
