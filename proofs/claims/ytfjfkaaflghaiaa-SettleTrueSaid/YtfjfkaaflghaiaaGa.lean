/-
  ENGINE: the operations of a function run by the kernel on a state that is written out: slots, and the blocks that the call itself made. Nothing here speaks of a program.
  ENGINE, second part: memory of the call's own, and the run itself.
  ENGINE, third part: rules.
  ENGINE, fourth part: calls, new blocks, loops, the beginning and the end.
  ENGINE, fifth part: loops.
  ENGINE, sixth part: a region that draws its order. Each operation is looked at once; what it reads is there whatever the order, and all that it makes is there in the end.
  ENGINE, seventh part: the law of a region that draws its order.
  ENGINE, eighth part: the law of a region that draws its order, its step and its whole.
  ENGINE, ninth part: the operations of a region that draws its order, one by one.
-/
import Derived.Test.YtfjfkaaflghaiaaHK
import Derived.OrdersIn
import Derived.RangeFuncCalls
import Derived.Outline
import Derived.KernelRfl
import Derived.NoCompiler
import Derived.Laws.CopyRow
import Derived.RangeFuncLeaves
import Derived.RangeFuncRecord
namespace Go.Proofs.Ytfjfkaaflghaiaa
open Go.RowKit

/-- Short names. -/
abbrev pA (b : Nat) : Value := .pointer (some ⟨b, 0, none⟩)
abbrev iV (n : Int) : Value := .int .i64 n
abbrev sV (b n c : Nat) : Value := .slice (some ⟨b, 0, none⟩) n c
abbrev cO (l : List Value) (t : TypeId) : Obj := .cells l.toArray t (0, 0)
abbrev aO (l : Array Value) (t : TypeId) : Obj := .cells l t (0, 0)
/-- But for the blocks of M all blocks of B are as they were. -/
structure Kept (M : Nat → Prop) (B w : World) : Prop where
  os : w.os = B.os
  tape : w.tape = B.tape
  output : w.output = B.output
  size : B.heap.size ≤ w.heap.size
  block : ∀ k, k < B.heap.size → ¬ M k → w.heap[k]? = B.heap[k]?
theorem Kept.refl (M : Nat → Prop) (w : World) : Kept M w w := ⟨rfl, rfl, rfl, Nat.le_refl _, fun _ _ _ => rfl⟩
theorem Kept.keeps {M : Nat → Prop} {B w : World} (h : Kept M B w) (hM : ∀ k, ¬ M k) : Keeps B w := ⟨h.os, h.tape, h.output, h.size, fun k hk => h.block k hk (hM k)⟩
theorem Kept.of {M : Nat → Prop} {B w : World} (h : Keeps B w) : Kept M B w := ⟨h.os, h.tape, h.output, h.size, fun k hk _ => h.block k hk⟩
theorem Kept.trans {M M' : Nat → Prop} {A B C : World} (h : Kept M A B) (h' : Kept M' B C) (hm : ∀ k, k < A.heap.size → M' k → M k) : Kept M A C :=
  ⟨h'.os.trans h.os, h'.tape.trans h.tape, h'.output.trans h.output, Nat.le_trans h.size h'.size, fun k hk hn => (h'.block k (Nat.lt_of_lt_of_le hk h.size) (fun m => hn (hm k hk m))).trans (h.block k hk hn)⟩
theorem Kept.then {M : Nat → Prop} {A B C : World} (h : Kept M A B) (h' : Keeps B C) : Kept M A C := h.trans (Kept.of (M := fun _ => False) h') (fun _ _ h => h.elim)
theorem Kept.mono {M M' : Nat → Prop} {A B : World} (h : Kept M A B) (hm : ∀ k, M k → M' k) : Kept M' A B := ⟨h.os, h.tape, h.output, h.size, fun k hk hn => h.block k hk (fun m => hn (hm k m))⟩
/-- A cell of B that is not M's. -/
theorem Kept.cell {M : Nat → Prop} {B w : World} (h : Kept M B w) {b o : Nat} {v : Value} (hc : B.cell? ⟨b, o, none⟩ = some v) (hm : ¬ M b) : w.cell? ⟨b, o, none⟩ = some v :=
  (World.cell?_of_block (w := B) (h.block b (lt_of_cell hc) hm)).trans hc

/-- What is known: slots, and the call's own blocks. -/
structure St where
  sl : List (Nat × Value)
  hp : List (Nat × Obj)
def look : List (Nat × Value) → Nat → Option Value
  | [], _ => none
  | (s, v) :: r, t => bif s == t then some v else look r t
def St.ev (st : St) : Operand → Value
  | .tmp t => (look st.sl t).getD undef
  | .const v => v
  | .global g => .pointer (some ⟨g, 0, none⟩)
  | .func f => .func (.func f) #[] #[]
def St.put (st : St) : Option Tmp → Value → St
  | some d, v => ⟨(d, v) :: st.sl, st.hp⟩
  | none, _ => st

inductive KI where
  | code (c : Code)
  | ops (o : Array Oper) (l : List Nat)
  | blk (id : Nat)
  | lp (J : Act → World → Prop)

/-- What is so of others while a function goes on that calls yield: D: their blocks; J: what holds, whatever the function does to blocks of its own (those that n0 says, and that are not theirs). -/
structure Ext where
  D : Nat → Prop
  n0 : Nat → Prop
  J : World → Prop
  stab : ∀ w w', J w → Kept (fun b => n0 b ∧ ¬ D b) w w' → J w'
  lt : ∀ w b, J w → D b → b < w.heap.size
def Ext.none : Ext := ⟨fun _ => False, fun _ => True, fun _ => True, fun _ _ _ _ => trivial, fun _ _ _ h => h.elim⟩
/-- It holds, and the known blocks are the function's own. -/
structure GE (E : Ext) (hp : List (Nat × Obj)) (w : World) : Prop where
  J : E.J w
  hp : ∀ p ∈ hp, E.n0 p.1 ∧ ¬ E.D p.1
  n0 : ∀ b, w.heap.size ≤ b → E.n0 b
theorem GE.none (hp : List (Nat × Obj)) (w : World) : GE Ext.none hp w := ⟨trivial, fun _ _ => ⟨trivial, fun h => h⟩, fun _ _ => trivial⟩
theorem GE.keeps {E : Ext} {hp : List (Nat × Obj)} {w w' : World} (h : GE E hp w) (k : Keeps w w') : GE E hp w' := ⟨E.stab _ _ h.J (Kept.of k), h.hp, fun b hb => h.n0 b (Nat.le_trans k.size hb)⟩

/-- In what a function is gone through. lo: marks of loops over functions lie from there on. -/
structure Cx where
  P : Program
  lo : Nat
  rd : Option Nat
  n : Nat
  M : Nat → Prop
  B : World
  N : Nat
  Q : Exit → Act → World → Prop
  E : Ext := Ext.none
def Cx.F (X : Cx) : Fence := { Fence.wide with round := X.rd }

def mark (D : Nat) : Deferred := { target := .collected D, args := #[] }
def isDef : Obj → Bool
  | .deferred _ | .loop _ => true
  | _ => false
/-- The deferred calls of an activation: marks alone. -/
def Mk (E : Ext) (lo : Nat) (a : Act) (w : World) : Prop := ∃ Ds : List Nat, a.defers = Ds.map mark ∧ Ds.Nodup ∧ ∀ D ∈ Ds, w.heap[D]? = some (.deferred (some [])) ∧ lo ≤ D ∧ E.n0 D ∧ ¬ E.D D
theorem Mk.none {E : Ext} {lo : Nat} {a : Act} {w : World} (h : a.defers = []) : Mk E lo a w := ⟨[], h, List.nodup_nil, fun _ h => by cases h⟩
/-- What is no mark may turn. -/
theorem Mk.turn {E : Ext} {lo : Nat} {a : Act} {w w' : World} (h : Mk E lo a w) (hw : ∀ D : Nat, w.heap[D]? = some (Obj.deferred (some [])) → w'.heap[D]? = w.heap[D]?) : Mk E lo a w' := by
  obtain ⟨Ds, h1, h2, h3⟩ := h
  exact ⟨Ds, h1, h2, fun D hD => ⟨(hw D (h3 D hD).1).trans (h3 D hD).1, (h3 D hD).2⟩⟩
structure G (X : Cx) (st : St) (a : Act) (w : World) : Prop where
  df : Mk X.E X.lo a w
  sz : a.tmps.size = X.N
  sl : ∀ t v, look st.sl t = some v → a.tmps[t]? = some v
  hp : ∀ p ∈ st.hp, w.heap[p.1]? = some p.2 ∧ (p.1 < X.B.heap.size → X.M p.1)
  ne : st.hp.Pairwise fun p q => p.1 ≠ q.1
  nd : ∀ p ∈ st.hp, isDef p.2 = false
  kp : Kept X.M X.B w
  ex : GE X.E st.hp w

def wpK (X : Cx) : List KI → Exit → Act → World → Prop
  | [] => X.Q
  | .code c :: k => Exit.then (fun a w => c.wpIn X.F X.n X.P (wpK X k) a w) (wpK X k)
  | .ops o l :: k => Exit.then (fun a w => wpOpsIn X.F X.n X.P o (wpK X k) l a w) (wpK X k)
  | .blk id :: k => Exit.inBlock id (wpK X k)
  | .lp J :: k => Exit.then J (wpK X k)

/-- From this state on all goes well. -/
def Run (X : Cx) (k : List KI) (st : St) : Prop := ∀ a w, G X st a w → wpK X k .normal a w

theorem G.eval {X : Cx} {st : St} {a : Act} {w : World} (h : G X st a w) {x : Operand} (hx : (match x with | .tmp t => (look st.sl t).isSome | _ => true) = true) : a.eval x = st.ev x := by
  cases x with
  | tmp t =>
    obtain ⟨v, hv⟩ := Option.isSome_iff_exists.1 hx
    have := h.sl t v hv
    simp [Act.eval, St.ev, hv, this]
  | const v => rfl
  | global g => rfl
  | func f => rfl

/-- All operands are known, and it is no select or defer statement. -/
def opOk (st : St) (o : Oper) : Bool :=
  match o.op with
  | .select .. => false
  | .defer _ => false
  | op => op.operands.toList.all fun x => match x with | .tmp t => (look st.sl t).isSome | _ => true
theorem opOk_spec {st : St} {o : Oper} (h : opOk st o = true) : (∀ cs b, o.op ≠ .select cs b) ∧ (∀ c, o.op ≠ .defer c) ∧ ∀ x ∈ o.op.operands, (match x with | .tmp t => (look st.sl t).isSome | _ => true) = true := by
  unfold opOk at h
  obtain ⟨dst, op, type, pos, after, guard⟩ := o
  dsimp only at h ⊢
  cases op <;> first
    | cases h; done
    | exact ⟨fun _ _ e => (by cases e), fun _ e => (by cases e), fun x hx => List.all_eq_true.1 h x (Array.mem_toList_iff.2 hx)⟩
theorem G.exec {X : Cx} {st : St} {a : Act} {w : World} (h : G X st a w) {o : Oper} (ho : opOk st o = true) : execOp a.eval o = execOp st.ev o := by
  obtain ⟨h1, _, h3⟩ := opOk_spec ho
  exact execOp_congr o h1 fun x hx => h.eval (h3 x hx)

def wantedS (ops : Array Oper) (st : St) (o : Oper) : Option Bool :=
  match o.guard with
  | none => some true
  | some (j, want) =>
    match (ops[j]?).bind (·.dst) with
    | none => none
    | some d => match look st.sl d with
      | some (.bool b) => some (b == want)
      | some _ => some false
      | none => none
theorem G.wanted {X : Cx} {st : St} {a : Act} {w : World} (h : G X st a w) {ops : Array Oper} {o : Oper} {t : Bool} (ht : wantedS ops st o = some t) : Region.wanted o (yielded ops a.tmps) = t := by
  unfold wantedS at ht
  unfold Region.wanted
  cases hg : o.guard with
  | none => rw [hg] at ht; injection ht
  | some jw =>
    obtain ⟨j, want⟩ := jw
    rw [hg] at ht
    dsimp only at ht ⊢
    unfold yielded
    cases hd : (ops[j]?).bind (·.dst) with
    | none => rw [hd] at ht; cases ht
    | some d =>
      rw [hd] at ht
      dsimp only at ht
      cases hl : look st.sl d with
      | none => rw [hl] at ht; cases ht
      | some v =>
        rw [hl] at ht
        have := h.sl d v hl
        rw [Option.bind_some, this]
        cases v with
        | bool b => simp at ht; cases b <;> cases want <;> cases t <;> simp_all
        | _ => simp at ht; subst ht; rfl

def qrun (P : Program) {α : Type} : Sem α → Option α
  | .pure a => some a
  | .program k => qrun P (k P)
  | _ => none
theorem qrun_run {P : Program} {α : Type} {s : Sem α} {x : α} (h : qrun P s = some x) (w : World) : s.run P w = .ok x w := by
  induction s with
  | pure a => injection h with h; subst h; rfl
  | program k ih => exact ih P h
  | _ => cases h

theorem look_put {st : St} {d : Nat} {v : Value} {t : Nat} {u : Value} (h : look (st.put (some d) v).sl t = some u) : (d = t ∧ v = u) ∨ (d ≠ t ∧ look st.sl t = some u) := by
  have h' : (bif d == t then some v else look st.sl t) = some u := h
  by_cases e : d = t
  · subst e
    simp at h'
    exact .inl ⟨rfl, h'⟩
  · have : (d == t) = false := by simpa using e
    rw [this] at h'
    exact .inr ⟨e, h'⟩

/-- A slot that there is. -/
def dstOk (N : Nat) : Option Tmp → Bool
  | some d => decide (d < N)
  | none => true

theorem G.put {X : Cx} {st : St} {a : Act} {w : World} (h : G X st a w) {d : Option Tmp} (hd : dstOk X.N d = true) (v : Value) : G X (st.put d v) (a.put d v) w := by
  cases d with
  | none => exact h
  | some d =>
    have hd : d < X.N := by simpa [dstOk] using hd
    refine ⟨h.df, by simp [Act.put, h.sz], fun t u hu => ?_, h.hp, h.ne, h.nd, h.kp, h.ex⟩
    rcases look_put hu with ⟨rfl, rfl⟩ | ⟨hne, hu⟩
    · have : d < a.tmps.size := by rw [h.sz]; exact hd
      simp [Act.put, this]
    · have := h.sl t u hu
      simp [Act.put, Array.getElem?_setIfInBounds_ne hne, this]

/-- The world may turn where nothing that is known hangs on it. -/
theorem G.world {X : Cx} {st : St} {a : Act} {w w' : World} (h : G X st a w) (k : Keeps w w') : G X st a w' :=
  ⟨h.df.turn fun D hD => k.heap (Array.getElem?_eq_some_iff.1 hD).1, h.sz, h.sl, fun p hp => ⟨(k.heap (by
    have := (h.hp p hp).1
    exact (Array.getElem?_eq_some_iff.1 this).1)).trans (h.hp p hp).1, (h.hp p hp).2⟩, h.ne, h.nd, h.kp.then k, h.ex.keeps k⟩

/-- One operation, without a fence. -/
def OpR (P : Program) (ρ : Operand → Value) (o : Oper) (w : World) (next : Value → World → Prop) (bad : List PanicEntry → World → Prop) : Prop :=
  match (execOp ρ o).run P w with
  | .ok (.value v) w' => next v w'
  | .ok .skip w' => next undef w'
  | .ok (.enter f args) w' => Calls P f args w' fun
      | .returned v, w'' => next v w''
      | .panicked c, w'' => bad c w''
      | .outgrown, _ => False
  | .ok (.round l f tmps assign body) w' => RoundIn Fence.wide 0 P l f tmps assign body w' fun
      | .returned v, w'' => next v w''
      | .panicked c, w'' => bad c w''
      | .outgrown, _ => False
  | .halt (.panic v) w' => bad [{ v, recovered := false }] w'
  | _ => False

theorem OpR.wpIn {X : Cx} {o : Oper} {a : Act} {w : World} {next : Act → World → Prop} {Q : Exit → Act → World → Prop} (hd : ∀ c, o.op ≠ .defer c)
    (h : OpR X.P a.eval o w (fun v w' => next (a.put o.dst v) w') (fun c w' => Q (.panic c) a w')) : o.wpIn X.F X.n X.P a w next Q := by
  refine ⟨fun _ _ => trivial, ?_⟩
  rw [Oper.semAt_eq _ _ _ hd]
  unfold OpR at h
  revert h
  cases (execOp a.eval o).run X.P w with
  | ok x w' =>
    cases x <;> simp only [Oper.uponIn] <;> first
      | exact fun h => h
      | exact fun h => False.elim h
      | skip
    case enter f args =>
      intro h
      refine ⟨fun h => by simp [Cx.F, Fence.wide] at h, ?_⟩
      have h2 : CallsIn Fence.wide (X.n - 1) X.P f args w' _ := callsIn_wide.2 h
      refine CallsIn.mono (F := X.F) h2 fun e w'' he => ?_
      cases e with
      | returned v => exact he
      | panicked c => exact he
      | outgrown => exact he.elim
    case round l f tmps assign body =>
      intro h
      refine ⟨fun h => by simp [Cx.F, Fence.wide] at h, ?_⟩
      refine RoundIn.mono (F := X.F) (R := fun
        | .returned v, w'' => next (a.put o.dst v) w''
        | .panicked c, w'' => Q (.panic c) a w''
        | .outgrown, _ => False) ⟨trivial, fun c cs _ => h.2 c cs (room_wide _)⟩ fun e w'' he => ?_
      cases e with
      | returned v => exact he
      | panicked c => exact he
      | outgrown => exact he.elim
  | halt x w' =>
    cases x <;> simp only [Oper.uponIn] <;> first
      | exact fun h => h
      | exact fun h => False.elim h

end Go.Proofs.Ytfjfkaaflghaiaa

namespace Go.Proofs.Ytfjfkaaflghaiaa
open Go.RowKit

/-- How many cells a type has, and whether it is a struct or an array. -/
def tySize (P : Program) (t : TypeId) : Option Nat := (P.info? t).map (·.size)
def tyAgg (P : Program) (t : TypeId) : Option Bool :=
  match P.underlying t with
  | some (.struct _) | some (.array _ _) => some true
  | some _ => some false
  | none => none
theorem isAgg_run {P : Program} {t : TypeId} {b : Bool} (h : tyAgg P t = some b) (w : World) : (isAgg t).run P w = .ok b w := by
  unfold tyAgg at h
  cases hu : P.underlying t with
  | none => rw [hu] at h; cases h
  | some d =>
    rw [hu] at h
    cases d <;> (injection h with h; subst h; simp [isAgg, Go.underlying, program, hu, Sem.run, bind, Sem.bind, pure])
theorem sizeOf_run {P : Program} {t : TypeId} {n : Nat} (h : tySize P t = some n) (w : World) : (Go.sizeOf t).run P w = .ok n w := by
  unfold tySize at h
  cases hi : P.info? t with
  | none => rw [hi] at h; cases h
  | some i =>
    rw [hi] at h
    injection h with h
    subst h
    simp [Go.sizeOf, typeInfo, program, hi, Sem.run, bind, Sem.bind, pure]

def loadV (P : Program) (t : TypeId) (c : List Value) (off : Nat) : Option Value :=
  match tyAgg P t, tySize P t with
  | some true, some n => bif Nat.ble (off + n) c.length then some (.agg ((c.drop off).take n).toArray) else none
  | some false, _ => c[off]?
  | _, _ => none
theorem add_none (b o i : Nat) : (⟨b, o, none⟩ : Addr).add i = ⟨b, o + i, none⟩ := by unfold Addr.add; split <;> simp_all
/-- A load of memory whose cells are known. -/
theorem load_cells {P : Program} {t : TypeId} {c : List Value} {b base off : Nat} {v : Value} {w : World} (hc : ∀ i u, c[i]? = some u → w.cell? ⟨b, base + i, none⟩ = some u) (hv : loadV P t c off = some v) : (Instr.loadAt t (.pointer (some ⟨b, base + off, none⟩))).run P w = .ok v w := by
  unfold loadV at hv
  cases ha : tyAgg P t with
  | none => rw [ha] at hv; cases hv
  | some g =>
    rw [ha] at hv
    have h1 := isAgg_run ha w
    cases g with
    | false =>
      have hv : c[off]? = some v := hv
      have h2 := hc off v hv
      simp [Instr.loadAt, Instr.sureAddr, loadVar, h1, Result.andThen, h2]
    | true =>
      cases hs : tySize P t with
      | none => rw [hs] at hv; cases hv
      | some n =>
        rw [hs] at hv
        dsimp only at hv
        cases hle : Nat.ble (off + n) c.length with
        | false => rw [hle] at hv; cases hv
        | true =>
          rw [hle] at hv
          injection hv with hv
          have hle := Nat.le_of_ble_eq_true hle
          have h2 := sizeOf_run hs w
          have hl : ((c.drop off).take n).length = n := by rw [List.length_take, List.length_drop]; omega
          have h3 := run_loadCells_list (P := P) w ⟨b, base + off, none⟩ ((c.drop off).take n) (fun j u hj => by
            rw [add_none, Nat.add_assoc]
            refine hc (off + j) u ?_
            rw [List.getElem?_take] at hj
            split at hj
            · rwa [List.getElem?_drop] at hj
            · cases hj)
          rw [hl] at h3
          simp [Instr.loadAt, Instr.sureAddr, loadVar, h1, h2, h3, Result.andThen, ← hv]
theorem cells_of_heap {w : World} {b : Nat} {c : List Value} {e : TypeId} {fr : Nat × Nat} (h : w.heap[b]? = some (.cells c.toArray e fr)) : ∀ i u, c[i]? = some u → w.cell? ⟨b, i, none⟩ = some u := by
  intro i u hi
  simp [World.cell?, h, hi]

def storeV (P : Program) (t : TypeId) (c : List Value) (off : Nat) (v : Value) : Option (List Value) :=
  match tySize P t with
  | some n => bif v.cells.toList.length == n && Nat.ble (off + n) c.length && v.cells.toList.all (·.oneCell') then some (c.take off ++ v.cells.toList ++ c.drop (off + n)) else none
  | none => none
theorem store_own {P : Program} {t : TypeId} {c c' : List Value} {b off : Nat} {e : TypeId} {v : Value} {w : World} (h : w.heap[b]? = some (.cells c.toArray e (0, 0))) (hs : storeV P t c off v = some c') : (Instr.storeAt t (.pointer (some ⟨b, off, none⟩)) v).run P w = .ok () (w.setRow b c'.toArray) := by
  unfold storeV at hs
  cases hn : tySize P t with
  | none => rw [hn] at hs; cases hs
  | some n =>
    rw [hn] at hs
    dsimp only at hs
    cases hb : (v.cells.toList.length == n && Nat.ble (off + n) c.length && v.cells.toList.all (·.oneCell')) with
    | false => rw [hb] at hs; cases hs
    | true =>
      rw [hb] at hs
      injection hs with hs
      simp only [Bool.and_eq_true, beq_iff_eq, List.all_eq_true] at hb
      obtain ⟨⟨h1, h2⟩, h3⟩ := hb
      have h2 := Nat.le_of_ble_eq_true h2
      have h4 := sizeOf_run hn w
      have h5 := run_storeCells_at P b off e v.cells.toList 0 c.toArray w h (by simp; simp at h1; omega) h3
      have hsz : v.cells.size = n := by simpa using h1
      simp only [Nat.add_zero] at h5
      simp [Instr.storeAt, Instr.sureAddr, storeVar, h4, hsz, Result.andThen, h5, ← hs]

theorem Kept.setRow {M : Nat → Prop} {B w : World} (h : Kept M B w) {b : Nat} {c : Array Value} (hb : b < B.heap.size → M b) : Kept M B (w.setRow b c) :=
  ⟨h.os, h.tape, h.output, by simpa [World.setRow] using h.size, fun k hk hn => by
    have hne : k ≠ b := fun e => by subst e; exact hn (hb hk)
    exact (setRow_other w b k c hne).trans (h.block k hk hn)⟩
theorem pairwise_ne {α : Type} {l : List (Nat × α)} (h : l.Pairwise fun p q => p.1 ≠ q.1) {i j : Nat} {p q : Nat × α} (hi : l[i]? = some p) (hj : l[j]? = some q) (hn : i ≠ j) : p.1 ≠ q.1 := by
  obtain ⟨h1, h2⟩ := List.getElem?_eq_some_iff.1 hi
  obtain ⟨h3, h4⟩ := List.getElem?_eq_some_iff.1 hj
  rw [List.pairwise_iff_getElem] at h
  rcases Nat.lt_or_ge i j with hl | hl
  · have := h i j h1 h3 hl
    rwa [h2, h4] at this
  · have := h j i h3 h1 (by omega)
    rw [h2, h4] at this
    exact Ne.symm this
theorem pairwise_set {α : Type} {l : List (Nat × α)} (h : l.Pairwise fun p q => p.1 ≠ q.1) {j : Nat} {b : Nat} {o o' : α} (hj : l[j]? = some (b, o)) : (l.set j (b, o')).Pairwise fun p q => p.1 ≠ q.1 := by
  have hm : (l.set j (b, o')).map (·.1) = l.map (·.1) := by
    rw [List.map_set]
    apply List.ext_getElem?
    intro i
    rw [List.getElem?_set]
    split
    · rename_i e
      subst e
      have hlt : j < (l.map (·.1)).length := by simpa using (List.getElem?_eq_some_iff.1 hj).1
      rw [if_pos hlt, List.getElem?_map, hj]
      rfl
    · rfl
  have e1 : ∀ l : List (Nat × α), (l.Pairwise fun p q => p.1 ≠ q.1) ↔ (l.map (·.1)).Pairwise (· ≠ ·) := fun l => by rw [List.pairwise_map]
  rw [e1, hm, ← e1]
  exact h
/-- A store into a block of the call's own. -/
theorem G.setRow {X : Cx} {st : St} {a : Act} {w : World} (h : G X st a w) {j b : Nat} {c : Array Value} {e : TypeId} {fr : Nat × Nat} (hj : st.hp[j]? = some (b, .cells c e fr)) (c' : Array Value) : G X ⟨st.sl, st.hp.set j (b, .cells c' e fr)⟩ a (w.setRow b c') := by
  have hb := h.hp _ (List.mem_of_getElem? hj)
  refine ⟨h.df.turn fun D hD => setRow_other _ _ _ _ (fun e => by subst e; rw [hb.1] at hD; cases hD), h.sz, h.sl, fun p hp => ?_, pairwise_set h.ne hj, fun p hp => ?_, h.kp.setRow hb.2, ?_⟩
  rotate_left
  · rcases List.mem_or_eq_of_mem_set hp with hp | rfl
    · exact h.nd p hp
    · rfl
  · refine ⟨X.E.stab _ _ h.ex.J ((Kept.refl _ w).setRow fun _ => h.ex.hp _ (List.mem_of_getElem? hj)), fun p hp => ?_, by simpa [World.setRow] using h.ex.n0⟩
    rcases List.mem_or_eq_of_mem_set hp with hp | rfl
    · exact h.ex.hp p hp
    · exact h.ex.hp (b, .cells c e fr) (List.mem_of_getElem? hj)
  obtain ⟨i, hi⟩ := List.mem_iff_getElem?.1 hp
  rw [List.getElem?_set] at hi
  split at hi
  · rename_i e
    split at hi
    · injection hi with hi
      subst hi
      exact ⟨setRow_heap _ _ _ _ _ _ hb.1, hb.2⟩
    · cases hi
  · rename_i hne
    have hpp := h.hp p (List.mem_of_getElem? hi)
    exact ⟨(setRow_other _ _ _ _ (pairwise_ne h.ne hi hj (Ne.symm hne))).trans hpp.1, hpp.2⟩

theorem Kept.alloc {M : Nat → Prop} {B w : World} (h : Kept M B w) (o : Obj) : Kept M B (w.alloc o) := h.then ((Keeps.refl w).alloc o)
/-- A new block. -/
theorem G.alloc {X : Cx} {st : St} {a : Act} {w : World} (h : G X st a w) (o : Obj) (hod : isDef o = false) : G X ⟨st.sl, (w.heap.size, o) :: st.hp⟩ a (w.alloc o) := by
  have hlt : ∀ p ∈ st.hp, p.1 < w.heap.size := fun p hp => (Array.getElem?_eq_some_iff.1 (h.hp p hp).1).1
  refine ⟨h.df.turn fun D hD => Below.heap_alloc _ _ _ (Array.getElem?_eq_some_iff.1 hD).1, h.sz, h.sl, fun p hp => ?_, List.pairwise_cons.2 ⟨fun q hq e => ?_, h.ne⟩, fun p hp => ?_, h.kp.alloc o, ⟨X.E.stab _ _ h.ex.J (Kept.of ((Keeps.refl w).alloc o)), fun p hp => ?_, fun b hb => h.ex.n0 b (Nat.le_trans ((Keeps.refl w).alloc o).size hb)⟩⟩
  · rcases List.mem_cons.1 hp with rfl | hp
    · refine ⟨?_, fun hl => absurd hl (Nat.not_lt.2 h.kp.size)⟩
      show (w.heap.push o)[w.heap.size]? = some o
      simp
    · exact ⟨(Below.heap_alloc _ _ _ (hlt p hp)).trans (h.hp p hp).1, (h.hp p hp).2⟩
  · have := hlt q hq
    have e : w.heap.size = q.1 := e
    omega
  · rcases List.mem_cons.1 hp with rfl | hp
    · exact hod
    · exact h.nd p hp
  · rcases List.mem_cons.1 hp with rfl | hp
    · exact ⟨h.ex.n0 _ (Nat.le_refl _), fun hd => Nat.lt_irrefl _ (X.E.lt _ _ h.ex.J hd)⟩
    · exact h.ex.hp p hp
end Go.Proofs.Ytfjfkaaflghaiaa

namespace Go.Proofs.Ytfjfkaaflghaiaa
open Go.RowKit

/-- Where an exit leads. -/
def exitK (id : Nat) : List KI → Option (List KI)
  | [] => none
  | .blk i :: k => bif id == i then some k else exitK id k
  | _ :: k => exitK id k
theorem exitK_ok {X : Cx} {id : Nat} {a : Act} {w : World} : ∀ {k k' : List KI}, exitK id k = some k' → wpK X k' .normal a w → wpK X k (.exit id) a w
  | [], _, h, _ => by cases h
  | .blk i :: k, k', h, hk => by
    have h : (bif id == i then some k else exitK id k) = some k' := h
    show (if id = i then wpK X k .normal a w else wpK X k (.exit id) a w)
    by_cases e : id = i
    · subst e
      simp at h
      subst h
      rw [if_pos rfl]
      exact hk
    · rw [if_neg e]
      have : (id == i) = false := by simpa using e
      rw [this] at h
      exact exitK_ok (k := k) h hk
  | .code _ :: k, k', h, hk => exitK_ok (k := k) h hk
  | .ops _ _ :: k, k', h, hk => exitK_ok (k := k) h hk
  | .lp _ :: k, k', h, hk => exitK_ok (k := k) h hk
/-- One step that looks at no value. -/
def nx : List KI → Option (List KI)
  | .code (.seq x y) :: k => some (.code x :: .code y :: k)
  | .code .skip :: k => some k
  | .code (.label _) :: k => some k
  | .code (.block id c) :: k => some (.code c :: .blk id :: k)
  | .code (.region _ ops false) :: k => some (.ops ops (List.range ops.size) :: k)
  | .ops _ [] :: k => some k
  | .blk _ :: k => some k
  | .code (.exit id) :: k => exitK id k
  | _ => none
theorem nx_ok {X : Cx} {st : St} {k k' : List KI} (h : nx k = some k') (hk : Run X k' st) : Run X k st := by
  intro a w g
  have hk := hk a w g
  unfold nx at h
  split at h
  · injection h with h
    subst h
    exact wpIn_seq hk
  · injection h with h
    subst h
    exact wpIn_skip hk
  · injection h with h
    subst h
    exact wpIn_label hk
  · injection h with h
    subst h
    exact wpIn_block hk
  · injection h with h
    subst h
    exact wpIn_region hk
  · injection h with h
    subst h
    exact hk
  · injection h with h
    subst h
    exact hk
  · exact wpIn_exit (exitK_ok h hk)
  · cases h

/-- How far: 'true', 'false': a condition's way. -/
def adv : Nat → List Bool → List KI → List KI
  | 0, _, k => k
  | n + 1, ds, k =>
    match nx k with
    | some k' => adv n ds k'
    | none =>
      match k, ds with
      | .code (.cond _ x y) :: k', d :: ds' => adv n ds' (.code (bif d then x else y) :: k')
      | .ops ops (_ :: l) :: k', ds => adv n ds (.ops ops l :: k')
      | k, _ => k
/-- What an operation does that needs no new block and no call: the slot's value, the blocks; what must be so. hs: at which place of the list the block lies that it reads or writes. -/
def doOp (P : Program) (ov : List (Nat × Value)) (hs : List Nat) (ops : Array Oper) (o : Oper) (st : St) : Option (St × List Nat × List (Value × Value)) :=
  match wantedS ops st o with
  | some false => some (st.put o.dst undef, hs, [])
  | some true =>
    bif opOk st o then
      match o.op, hs with
      | .load t x, j :: hs' =>
        match st.ev x, st.hp[j]? with
        | .pointer (some ⟨b, off, none⟩), some (b', .cells c _ _) =>
          match loadV P t c.toList off with
          | some v => match o.dst.bind (look ov) with
            | some v' => some (st.put o.dst v', hs', [(v, v'), (.pointer (some ⟨b, 0, none⟩), .pointer (some ⟨b', 0, none⟩))])
            | none => some (st.put o.dst v, hs', [(.pointer (some ⟨b, 0, none⟩), .pointer (some ⟨b', 0, none⟩))])
          | none => none
        | _, _ => none
      | .store t x y, j :: hs' =>
        match st.ev x, st.hp[j]? with
        | .pointer (some ⟨b, off, none⟩), some (b', .cells c e (0, 0)) =>
          match storeV P t c.toList off (st.ev y) with
          | some c' => some ((⟨st.sl, st.hp.set j (b', .cells c'.toArray e (0, 0))⟩ : St).put o.dst undef, hs', [(.pointer (some ⟨b, 0, none⟩), .pointer (some ⟨b', 0, none⟩))])
          | none => none
        | _, _ => none
      | _, _ =>
        match qrun P (execOp st.ev o) with
        | some (.value v) => match o.dst.bind (look ov) with
          | some v' => some (st.put o.dst v', hs, [(v, v')])
          | none => some (st.put o.dst v, hs, [])
        | some .skip => some (st.put o.dst undef, hs, [])
        | _ => none
    else none
  | none => none
def EqAll : List (Value × Value) → Prop
  | [] => True
  | (a, b) :: l => a = b ∧ EqAll l
theorem EqAll.append {l l' : List (Value × Value)} : EqAll (l ++ l') ↔ EqAll l ∧ EqAll l' := by
  induction l with
  | nil => simp [EqAll]
  | cons p l ih => obtain ⟨a, b⟩ := p; simp [EqAll, ih, and_assoc]

def auto (P : Program) (N : Nat) (ov : List (Nat × Value)) : Nat → List Bool → List Nat → List KI → St → List (Value × Value) → Option (St × List (Value × Value))
  | 0, _, _, _, st, acc => some (st, acc)
  | n + 1, ds, hs, k, st, acc =>
    match nx k with
    | some k' => auto P N ov n ds hs k' st acc
    | none =>
      match k, ds with
      | .code (.cond c x y) :: k', d :: ds' =>
        bif (match c with | .tmp t => (look st.sl t).isSome | _ => true) then auto P N ov n ds' hs (.code (bif d then x else y) :: k') st ((st.ev c, .bool d) :: acc) else none
      | .ops ops (i :: l) :: k', ds =>
        match ops[i]? with
        | none => none
        | some o => bif dstOk N o.dst then
            match doOp P ov hs ops o st with
            | some (st', hs', e) => auto P N ov n ds hs' (.ops ops l :: k') st' (e ++ acc)
            | none => none
          else none
      | _, _ => none

theorem value_ptr {b b' : Nat} (h : Value.pointer (some ⟨b, 0, none⟩) = .pointer (some ⟨b', 0, none⟩)) : b = b' := by
  injection h with h
  injection h with h
  injection h

theorem wpK_panic {X : Cx} {c : List PanicEntry} : ∀ (k : List KI), wpK X k (.panic c) = X.Q (.panic c)
  | [] => rfl
  | .code _ :: k => wpK_panic k
  | .ops _ _ :: k => wpK_panic k
  | .blk _ :: k => wpK_panic k
  | .lp _ :: k => wpK_panic k
/-- One operation, and on. -/
theorem ops_at {X : Cx} {ops : Array Oper} {i : Nat} {l : List Nat} {k : List KI} {o : Oper} (ho : ops[i]? = some o) {st : St} (hw : wantedS ops st o = some true) (hok : opOk st o = true) {a : Act} {w : World} (g : G X st a w)
    (h : OpR X.P st.ev o w (fun v w' => wpK X (.ops ops l :: k) .normal (a.put o.dst v) w') (fun c w' => X.Q (.panic c) a w')) : wpK X (.ops ops (i :: l) :: k) .normal a w := by
  show wpOpsIn X.F X.n X.P ops (wpK X k) (i :: l) a w
  rw [wpOpsIn_cons]
  unfold wpOpIn
  rw [ho]
  dsimp only
  rw [g.wanted hw]
  refine OpR.wpIn (opOk_spec hok).2.1 ?_
  simp only [wpK_panic]
  unfold OpR at h ⊢
  rw [g.exec hok]
  exact h
theorem ops_cons {X : Cx} {ops : Array Oper} {i : Nat} {l : List Nat} {k : List KI} {o : Oper} (ho : ops[i]? = some o) {st : St} {t : Bool} (hw : wantedS ops st o = some t) (h1 : t = false → Run X (.ops ops l :: k) (st.put o.dst undef) ∧ dstOk X.N o.dst = true)
    (h2 : t = true → opOk st o = true ∧ ∀ a w, G X st a w → OpR X.P st.ev o w (fun v w' => wpK X (.ops ops l :: k) .normal (a.put o.dst v) w') (fun c w' => X.Q (.panic c) a w')) : Run X (.ops ops (i :: l) :: k) st := by
  intro a w g
  cases t with
  | false =>
    show wpOpsIn X.F X.n X.P ops (wpK X k) (i :: l) a w
    rw [wpOpsIn_cons]
    unfold wpOpIn
    rw [ho]
    dsimp only
    rw [g.wanted hw]
    obtain ⟨h3, h4⟩ := h1 rfl
    exact ⟨fun f _ => trivial, h3 _ _ (g.put h4 _)⟩
  | true =>
    obtain ⟨h3, h4⟩ := h2 rfl
    exact ops_at ho hw h3 g (h4 a w g)

theorem execOp_load {ρ : Operand → Value} {o : Oper} {t : TypeId} {x : Operand} (h : o.op = .load t x) : execOp ρ o = (do pure (.value (← Instr.loadAt t (ρ x)))) := by
  unfold execOp
  rw [h]
theorem execOp_store {ρ : Operand → Value} {o : Oper} {t : TypeId} {x y : Operand} (h : o.op = .store t x y) : execOp ρ o = (do Instr.storeAt t (ρ x) (ρ y); pure .skip) := by
  unfold execOp
  rw [h]

theorem do_ok {X : Cx} {ov : List (Nat × Value)} {hs hs' : List Nat} {ops : Array Oper} {i : Nat} {o : Oper} {l : List Nat} {k : List KI} {st st' : St} {e : List (Value × Value)} (ho : ops[i]? = some o) (hd : dstOk X.N o.dst = true)
    (h : doOp X.P ov hs ops o st = some (st', hs', e)) (he : EqAll e) (hk : Run X (.ops ops l :: k) st') : Run X (.ops ops (i :: l) :: k) st := by
  unfold doOp at h
  cases hw : wantedS ops st o with
  | none => rw [hw] at h; cases h
  | some t =>
    rw [hw] at h
    cases t with
    | false =>
      injection h with h
      injection h with h h'
      subst h
      exact ops_cons ho hw (fun _ => ⟨hk, hd⟩) (fun e => by cases e)
    | true =>
      dsimp only at h
      cases hok : opOk st o with
      | false => rw [hok] at h; cases h
      | true =>
        rw [hok] at h
        dsimp only [cond_true] at h
        refine ops_cons ho hw (fun e => by cases e) (fun _ => ⟨hok, fun a w g => ?_⟩)
        split at h
        · rename_i t x j hs1 hop
          split at h
          · rename_i b off b' c e0 fr hev hhp
            split at h
            · rename_i v hv
              have key : EqAll e → st'.hp = st.hp ∧ b = b' ∧ ∃ v', st' = st.put o.dst v' ∧ v = v' := by
                intro he
                split at h
                · rename_i v' _
                  injection h with h
                  injection h with h h'
                  injection h' with h' h''
                  subst h h''
                  exact ⟨by cases o.dst <;> rfl, value_ptr he.2.1, _, rfl, he.1⟩
                · injection h with h
                  injection h with h h'
                  injection h' with h' h''
                  subst h h''
                  exact ⟨by cases o.dst <;> rfl, value_ptr he.1, _, rfl, rfl⟩
              obtain ⟨_, rfl, v', rfl, rfl⟩ := key he
              have hb := g.hp _ (List.mem_of_getElem? hhp)
              have hb1 : w.heap[b]? = some (.cells c.toList.toArray e0 fr) := by simpa using hb.1
              have hl := load_cells (P := X.P) (w := w) (t := t) (base := 0) (fun i u hi => by rw [Nat.zero_add]; exact cells_of_heap hb1 i u hi) hv
              rw [Nat.zero_add] at hl
              unfold OpR
              rw [execOp_load hop, hev]
              simp only [Sem.run_bind, hl, Result.andThen, Sem.run_pure]
              exact hk _ _ (g.put hd _)
            · cases h
          · cases h
        · rename_i t x y j hs1 hop
          split at h
          · rename_i b off b' c e0 hev hhp
            split at h
            · rename_i c' hv
              injection h with h
              injection h with h h'
              injection h' with h' h''
              subst h h''
              have hbb : b = b' := value_ptr he.1
              subst hbb
              have hb := g.hp _ (List.mem_of_getElem? hhp)
              have hb1 : w.heap[b]? = some (.cells c.toList.toArray e0 (0, 0)) := by simpa using hb.1
              have hl := store_own hb1 hv
              have g2 := g.setRow (c := c) hhp c'.toArray
              unfold OpR
              rw [execOp_store hop, hev]
              simp only [Sem.run_bind, hl, Result.andThen, Sem.run_pure]
              exact hk _ _ (g2.put hd _)
            · cases h
          · cases h
        · split at h
          · rename_i v hq
            have key : ∃ v', st' = st.put o.dst v' ∧ v = v' := by
              split at h
              · injection h with h
                injection h with h h'
                injection h' with h' h''
                subst h h''
                exact ⟨_, rfl, he.1⟩
              · injection h with h
                injection h with h h'
                subst h
                exact ⟨_, rfl, rfl⟩
            obtain ⟨v', rfl, rfl⟩ := key
            unfold OpR
            rw [qrun_run hq w]
            exact hk _ _ (g.put hd _)
          · rename_i hq
            injection h with h
            injection h with h h'
            subst h
            unfold OpR
            rw [qrun_run hq w]
            exact hk _ _ (g.put hd _)
          · cases h

theorem auto_ok {X : Cx} {ov : List (Nat × Value)} : ∀ {n : Nat} {ds : List Bool} {hs : List Nat} {k : List KI} {st st' : St} {acc acc' : List (Value × Value)}, auto X.P X.N ov n ds hs k st acc = some (st', acc') → EqAll acc' → (Run X (adv n ds k) st' → Run X k st) ∧ EqAll acc
  | 0, ds, hs, k, st, st', acc, acc', h, he => by
    injection h with h
    injection h with h h'
    subst h h'
    exact ⟨id, he⟩
  | n + 1, ds, hs, k, st, st', acc, acc', h, he => by
    unfold auto at h
    unfold adv
    cases hn : nx k with
    | some k' =>
      rw [hn] at h
      obtain ⟨h1, h2⟩ := auto_ok h he
      exact ⟨fun hk => nx_ok hn (h1 hk), h2⟩
    | none =>
      rw [hn] at h
      dsimp only at h ⊢
      split at h
      · rename_i c x y k' d ds'
        cases hc : (match c with | .tmp t => (look st.sl t).isSome | _ => true) with
        | false => rw [hc] at h; cases h
        | true =>
          rw [hc] at h
          obtain ⟨h1, h2⟩ := auto_ok h he
          obtain ⟨h3, h4⟩ := h2
          refine ⟨fun hk a w g => ?_, h4⟩
          have hev : a.eval c = .bool d := (g.eval hc).trans h3
          have h5 := h1 hk a w g
          refine wpIn_cond hev ?_
          cases d <;> exact h5
      · rename_i ops i l k' ds
        split at h
        · cases h
        · rename_i o ho
          cases hd : dstOk X.N o.dst with
          | false => rw [hd] at h; cases h
          | true =>
            rw [hd] at h
            dsimp only [cond_true] at h
            split at h
            · rename_i st1 hs1 e hdo
              obtain ⟨h1, h2⟩ := auto_ok h he
              rw [EqAll.append] at h2
              exact ⟨fun hk => do_ok ho hd hdo h2.1 (h1 hk), h2.2⟩
            · cases h
      · cases h

/-- What is wanted of what is known. -/
def trim (ks hk : List Nat) (st : St) : St := ⟨ks.filterMap fun t => (look st.sl t).map fun v => (t, v), hk.filterMap fun j => st.hp[j]?⟩
theorem look_trim {sl : List (Nat × Value)} : ∀ {ks : List Nat} {t : Nat} {v : Value}, look (ks.filterMap fun t => (look sl t).map fun v => (t, v)) t = some v → look sl t = some v
  | [], t, v, h => by cases h
  | s :: ks, t, v, h => by
    rw [List.filterMap_cons] at h
    cases hs : look sl s with
    | none =>
      rw [hs] at h
      exact look_trim (ks := ks) h
    | some u =>
      rw [hs] at h
      have h : (bif s == t then some u else look _ t) = some v := h
      by_cases e : s = t
      · subst e
        simp at h
        rw [hs, h]
      · have : (s == t) = false := by simpa using e
        rw [this] at h
        exact look_trim (ks := ks) h
theorem pairwise_pick {α : Type} {l : List (Nat × α)} (h : l.Pairwise fun p q => p.1 ≠ q.1) : ∀ {js : List Nat}, js.Pairwise (· ≠ ·) → (js.filterMap fun j => l[j]?).Pairwise fun p q => p.1 ≠ q.1
  | [], _ => List.Pairwise.nil
  | j :: js, hp => by
    rw [List.pairwise_cons] at hp
    rw [List.filterMap_cons]
    cases hj : l[j]? with
    | none => exact pairwise_pick h hp.2
    | some p =>
      refine List.pairwise_cons.2 ⟨fun q hq => ?_, pairwise_pick h hp.2⟩
      obtain ⟨i, hi, hq⟩ := List.mem_filterMap.1 hq
      exact pairwise_ne h hj hq (hp.1 i hi)
def distinct : List Nat → Bool
  | [] => true
  | a :: l => l.all (fun b => !(a == b)) && distinct l
theorem distinct_ok : ∀ {l : List Nat}, distinct l = true → l.Pairwise (· ≠ ·)
  | [], _ => List.Pairwise.nil
  | a :: l, h => by
    simp only [distinct, Bool.and_eq_true, List.all_eq_true] at h
    exact List.pairwise_cons.2 ⟨fun b hb e => by have := h.1 b hb; subst e; simp at this, distinct_ok h.2⟩
theorem G.trim {X : Cx} {st : St} {a : Act} {w : World} (h : G X st a w) {ks hk : List Nat} (hd : distinct hk = true) : G X (trim ks hk st) a w :=
  ⟨h.df, h.sz, fun t v ht => h.sl t v (look_trim ht), fun p hp => by
    obtain ⟨j, _, hj⟩ := List.mem_filterMap.1 hp
    exact h.hp p (List.mem_of_getElem? hj), pairwise_pick h.ne (distinct_ok hd), fun p hp => by
    obtain ⟨j, _, hj⟩ := List.mem_filterMap.1 hp
    exact h.nd p (List.mem_of_getElem? hj), h.kp, ⟨h.ex.J, fun p hp => by
    obtain ⟨j, _, hj⟩ := List.mem_filterMap.1 hp
    exact h.ex.hp p (List.mem_of_getElem? hj), h.ex.n0⟩⟩

/-- As far as no new block and no call comes. -/
theorem run_auto {X : Cx} (ov : List (Nat × Value)) (n : Nat) (ds : List Bool) (hs : List Nat) (ks hk : List Nat) {k : List KI} {st st' : St} {acc : List (Value × Value)} (h : (auto X.P X.N ov n ds hs k st []).map (fun r => (trim ks hk r.1, r.2)) = some (st', acc)) (hd : distinct hk = true) (he : EqAll acc) (hr : Run X (adv n ds k) st') : Run X k st := by
  cases ha : auto X.P X.N ov n ds hs k st [] with
  | none => rw [ha] at h; cases h
  | some r =>
    obtain ⟨s1, a1⟩ := r
    rw [ha] at h
    injection h with h
    injection h with h h'
    subst h h'
    exact (auto_ok ha he).1 fun a w g => hr a w (g.trim hd)
end Go.Proofs.Ytfjfkaaflghaiaa

namespace Go.Proofs.Ytfjfkaaflghaiaa
open Go.RowKit

def hdOp : List KI → Option (Array Oper × Oper)
  | .ops ops (i :: _) :: _ => (ops[i]?).map fun o => (ops, o)
  | _ => none
def nextK : List KI → List KI
  | .ops ops (_ :: l) :: k => .ops ops l :: k
  | k => k
theorem hdOp_is {k : List KI} {ops : Array Oper} {o : Oper} (h : hdOp k = some (ops, o)) : ∃ i l k', k = .ops ops (i :: l) :: k' ∧ ops[i]? = some o := by
  unfold hdOp at h
  split at h
  · rename_i ops' i l k'
    cases ho : ops'[i]? with
    | none => rw [ho] at h; cases h
    | some o' =>
      rw [ho] at h
      injection h with h
      injection h with h1 h2
      subst h1 h2
      exact ⟨i, l, k', rfl, ho⟩
  · cases h
/-- The operation that comes is wanted, and its operands are known; what it does. -/
def headSem (N : Nat) (k : List KI) (st : St) : Option (Sem Next × Option Tmp) :=
  match hdOp k with
  | some (ops, o) =>
    match wantedS ops st o with
    | some true => bif opOk st o && dstOk N o.dst then some (execOp st.ev o, o.dst) else none
    | _ => none
  | none => none
theorem headSem_is {N : Nat} {k : List KI} {st : St} {s : Sem Next} {d : Option Tmp} (h : headSem N k st = some (s, d)) : ∃ ops i l k' o, k = .ops ops (i :: l) :: k' ∧ ops[i]? = some o ∧ wantedS ops st o = some true ∧ opOk st o = true ∧ dstOk N o.dst = true ∧ execOp st.ev o = s ∧ o.dst = d := by
  unfold headSem at h
  cases ho : hdOp k with
  | none => rw [ho] at h; cases h
  | some q =>
    obtain ⟨ops, o⟩ := q
    rw [ho] at h
    dsimp only at h
    obtain ⟨i, l, k', rfl, hi⟩ := hdOp_is ho
    split at h
    · rename_i hw
      cases hb : (opOk st o && dstOk N o.dst) with
      | false => rw [hb] at h; cases h
      | true =>
        rw [hb] at h
        injection h with h
        injection h with h1 h2
        simp only [Bool.and_eq_true] at hb
        exact ⟨ops, i, l, k', o, rfl, hi, hw, hb.1, hb.2, h1, h2⟩
    · cases h
/-- The blocks that are known, in a world. -/
def Hp (hp : List (Nat × Obj)) (w : World) : Prop := ∀ p ∈ hp, w.heap[p.1]? = some p.2
theorem G.Hp {X : Cx} {st : St} {a : Act} {w : World} (g : G X st a w) : Hp st.hp w := fun p hp => (g.hp p hp).1
/-- Whatever the operation that comes does. -/
theorem head_at {X : Cx} {k : List KI} {st : St} {s : Sem Next} {d : Option Tmp} (h : headSem X.N k st = some (s, d)) {a : Act} {w : World} (g : G X st a w) (hr : match s.run X.P w with
    | .ok (.value v) w' => wpK X (nextK k) .normal (a.put d v) w'
    | .ok .skip w' => wpK X (nextK k) .normal (a.put d undef) w'
    | .ok (.enter f args) w' => Calls X.P f args w' fun
      | .returned v, w'' => wpK X (nextK k) .normal (a.put d v) w''
      | .panicked c, w'' => X.Q (.panic c) a w''
      | .outgrown, _ => False
    | .ok (.round l f tmps assign body) w' => RoundIn Fence.wide 0 X.P l f tmps assign body w' fun
      | .returned v, w'' => wpK X (nextK k) .normal (a.put d v) w''
      | .panicked c, w'' => X.Q (.panic c) a w''
      | .outgrown, _ => False
    | .halt (.panic v) w' => X.Q (.panic [{ v, recovered := false }]) a w'
    | _ => False) : wpK X k .normal a w := by
  obtain ⟨ops, i, l, k', o, rfl, hi, hw, hok, hd, rfl, rfl⟩ := headSem_is h
  exact ops_at hi hw hok g hr
theorem headSem_dst {N : Nat} {k : List KI} {st : St} {s : Sem Next} {d : Option Tmp} (h : headSem N k st = some (s, d)) : dstOk N d = true := by
  obtain ⟨ops, i, l, k', o, rfl, hi, hw, hok, hd, rfl, rfl⟩ := headSem_is h
  exact hd

/-- A value that is found by a law. -/
theorem run_v {X : Cx} {k : List KI} {st : St} (s : Sem Next) (d : Option Tmp) (v : Value) (h : headSem X.N k st = some (s, d)) (hq : ∀ w, Kept X.M X.B w → Hp st.hp w → s.run X.P w = .ok (.value v) w) (hr : Run X (nextK k) (st.put d v)) : Run X k st := by
  intro a w g
  refine head_at h g ?_
  rw [hq w g.kp g.Hp]
  exact hr _ _ (g.put (headSem_dst h) _)

def nrun (P : Program) (b : Nat) {α : Type} : Sem α → Option (Obj × α)
  | .program k => nrun P b (k P)
  | .new o k => (qrun P (k b)).map fun x => (o, x)
  | _ => none
theorem nrun_run {P : Program} {α : Type} {s : Sem α} {o : Obj} {x : α} (w : World) (h : nrun P w.heap.size s = some (o, x)) : s.run P w = .ok x (w.alloc o) := by
  induction s with
  | program k ih => exact ih P h
  | new o' k _ =>
    have h : (qrun P (k w.heap.size)).map (fun x => (o', x)) = some (o, x) := h
    cases hq : qrun P (k w.heap.size) with
    | none => rw [hq] at h; cases h
    | some y =>
      rw [hq] at h
      injection h with h
      injection h with h1 h2
      subst h1 h2
      exact qrun_run hq _
  | _ => cases h
def headNew (P : Program) (N : Nat) (b : Nat) (k : List KI) (st : St) : Option (Obj × Value × Option Tmp) :=
  match headSem N k st with
  | some (s, d) => match nrun P b s with
    | some (o, .value v) => bif isDef o then none else some (o, v, d)
    | _ => none
  | none => none
/-- A new block. -/
theorem run_new {X : Cx} {k : List KI} {st : St} (O : Obj) (V : Nat → Value) (d : Option Tmp) (h : ∀ b, headNew X.P X.N b k st = some (O, V b, d)) (hr : ∀ b, X.B.heap.size ≤ b → Run X (nextK k) ((⟨st.sl, (b, O) :: st.hp⟩ : St).put d (V b))) : Run X k st := by
  intro a w g
  have h := h w.heap.size
  unfold headNew at h
  cases hs : headSem X.N k st with
  | none => rw [hs] at h; cases h
  | some q =>
    obtain ⟨s, d'⟩ := q
    rw [hs] at h
    dsimp only at h
    split at h
    · rename_i o v hn
      cases hod : isDef o with
      | true => rw [hod] at h; cases h
      | false =>
        rw [hod] at h
        injection h with h
        injection h with h1 h
        injection h with h2 h3
        subst h1 h2 h3
        have hrun := nrun_run w hn
        refine head_at hs g ?_
        rw [hrun]
        exact hr _ g.kp.size _ _ ((g.alloc _ hod).put (headSem_dst hs) _)
    · cases h

/-- A call. -/
def headCall (P : Program) (N : Nat) (k : List KI) (st : St) : Option (FuncId × Array Value × Option Tmp) :=
  match headSem N k st with
  | some (s, d) => match qrun P s with
    | some (.enter f args) => some (f, args, d)
    | _ => none
  | none => none
theorem headCall_is {P : Program} {N : Nat} {k : List KI} {st : St} {f : FuncId} {args : Array Value} {d : Option Tmp} (h : headCall P N k st = some (f, args, d)) : ∃ s, headSem N k st = some (s, d) ∧ qrun P s = some (.enter f args) := by
  unfold headCall at h
  cases hs : headSem N k st with
  | none => rw [hs] at h; cases h
  | some q =>
    obtain ⟨s, d'⟩ := q
    rw [hs] at h
    dsimp only at h
    split at h
    · rename_i f' args' hq
      injection h with h
      injection h with h1 h
      injection h with h2 h3
      subst h1 h2 h3
      exact ⟨s, rfl, hq⟩
    · cases h
/-- What is known of the blocks behind a call: those that may have turned are the call's own, those that are new are new. -/
structure After (hp hp' : List (Nat × Obj)) (w w' : World) : Prop where
  kp : Kept (fun b => ∃ o, (b, o) ∈ hp) w w'
  hp : ∀ p ∈ hp', w'.heap[p.1]? = some p.2 ∧ ((∃ o, (p.1, o) ∈ hp) ∨ w.heap.size ≤ p.1)
  ne : hp'.Pairwise fun p q => p.1 ≠ q.1
theorem After.same {hp : List (Nat × Obj)} {w w' : World} (h : Hp hp w) (hn : hp.Pairwise fun p q => p.1 ≠ q.1) (k : Keeps w w') : After hp hp w w' :=
  ⟨Kept.of k, fun p hpp => ⟨(k.heap (Array.getElem?_eq_some_iff.1 (h p hpp)).1).trans (h p hpp), .inl ⟨p.2, hpp⟩⟩, hn⟩
/-- New blocks, besides those that are as they were. -/
theorem After.more {hp new : List (Nat × Obj)} {w w' : World} (h : Hp hp w) (hn : hp.Pairwise fun p q => p.1 ≠ q.1) (k : Keeps w w') (h1 : ∀ p ∈ new, w'.heap[p.1]? = some p.2 ∧ w.heap.size ≤ p.1) (h2 : new.Pairwise fun p q => p.1 ≠ q.1) : After hp (new ++ hp) w w' := by
  have hlt : ∀ p ∈ hp, p.1 < w.heap.size := fun p hp => (Array.getElem?_eq_some_iff.1 (h p hp)).1
  refine ⟨Kept.of k, fun p hpp => ?_, List.pairwise_append.2 ⟨h2, hn, fun p hp q hq e => ?_⟩⟩
  · rcases List.mem_append.1 hpp with hp | hp
    · exact ⟨(h1 p hp).1, .inr (h1 p hp).2⟩
    · exact ⟨(k.heap (hlt p hp)).trans (h p hp), .inl ⟨p.2, hp⟩⟩
  · have := (h1 p hp).2
    have := hlt q hq
    omega
theorem G.after {X : Cx} {st : St} {a : Act} {w w' : World} (g : G X st a w) {hp' : List (Nat × Obj)} (h : After st.hp hp' w w') (hnd : ∀ p ∈ hp', isDef p.2 = false) : G X ⟨st.sl, hp'⟩ a w' :=
  ⟨g.df.turn fun D hD => h.kp.block D (Array.getElem?_eq_some_iff.1 hD).1 (fun ⟨o, ho⟩ => by
    have h1 := (g.hp _ ho).1
    have h2 := g.nd _ ho
    dsimp only at h1 h2
    rw [hD] at h1
    injection h1 with h1
    subst h1
    cases h2), g.sz, g.sl, fun p hp => ⟨(h.hp p hp).1, fun hl => by
    rcases (h.hp p hp).2 with ⟨o, ho⟩ | h2
    · exact (g.hp _ ho).2 hl
    · have := g.kp.size
      omega⟩, h.ne, hnd, g.kp.trans h.kp fun b hb ⟨o, ho⟩ => (g.hp _ ho).2 hb, ⟨X.E.stab _ _ g.ex.J (h.kp.mono fun b ⟨o, ho⟩ => g.ex.hp _ ho), fun p hp => by
    rcases (h.hp p hp).2 with ⟨o, ho⟩ | h2
    · exact g.ex.hp (p.1, o) ho
    · exact ⟨g.ex.n0 _ h2, fun hd => absurd (X.E.lt _ _ g.ex.J hd) (Nat.not_lt.2 h2)⟩, fun b hb => g.ex.n0 b (Nat.le_trans h.kp.size hb)⟩⟩

theorem run_call {X : Cx} {k : List KI} {st : St} (f : FuncId) (args : Array Value) (d : Option Tmp) (h : headCall X.P X.N k st = some (f, args, d)) {α : Type} (V : α → Value) (H : α → List (Nat × Obj)) (I : α → Prop)
    (hc : ∀ w, Kept X.M X.B w → Hp st.hp w → (st.hp.Pairwise fun p q => p.1 ≠ q.1) → Calls X.P f args w fun e w' => ∃ x, I x ∧ e = .returned (V x) ∧ After st.hp (H x) w w')
    (hnd : (∀ p ∈ st.hp, isDef p.2 = false) → ∀ x, I x → ∀ p ∈ H x, isDef p.2 = false) (hr : ∀ x, I x → Run X (nextK k) ((⟨st.sl, H x⟩ : St).put d (V x))) : Run X k st := by
  obtain ⟨s, hs, hq⟩ := headCall_is h
  intro a w g
  refine head_at hs g ?_
  rw [qrun_run hq w]
  refine (hc w g.kp g.Hp g.ne).mono fun e w' ⟨x, hI, he, hk⟩ => ?_
  subst he
  exact hr x hI _ _ ((g.after hk (hnd g.nd x hI)).put (headSem_dst hs) _)
/-- A call that returns a value and keeps all memory. -/
theorem run_ret1 {X : Cx} {k : List KI} {st : St} (f : FuncId) (args : Array Value) (d : Option Tmp) (v : Value) (h : headCall X.P X.N k st = some (f, args, d)) (hc : ∀ w, Kept X.M X.B w → Hp st.hp w → Calls X.P f args w (Ret v w))
    (hr : Run X (nextK k) (st.put d v)) : Run X k st :=
  run_call f args d h (fun _ : Unit => v) (fun _ => st.hp) (fun _ => True) (fun w k1 k2 k3 => (hc w k1 k2).mono fun _ _ ⟨he, hk⟩ => ⟨(), trivial, he, .same k2 k3 hk⟩) (fun h _ _ => h) (fun _ _ => hr)
/-- What a world turns into when the marks are taken off. -/
structure Shut (Ds : List Nat) (w w' : World) : Prop where
  os : w'.os = w.os
  tape : w'.tape = w.tape
  output : w'.output = w.output
  size : w'.heap.size = w.heap.size
  block : ∀ k, k ∉ Ds → w'.heap[k]? = w.heap[k]?
theorem leave_marks {F : Fence} {n : Nat} {P : Program} {fn : Func} {tmps : Array Value} {R : Ending → World → Prop} {u : FrameMode} (hu : u ≠ .run) : ∀ {Ds : List Nat} {w : World}, Ds.Nodup → (∀ D ∈ Ds, w.heap[D]? = some (.deferred (some []))) → (∀ w', Shut Ds w w' → LeavesIn F n P fn tmps R [] u w') → LeavesInM F n P fn tmps R (Ds.map mark) u w
  | [], w, _, _, h => h w ⟨rfl, rfl, rfl, rfl, fun _ _ => rfl⟩
  | D :: Ds, w, hn, hd, h => by
    rw [List.nodup_cons] at hn
    refine ⟨hu, .inl ⟨D, _, rfl, run_takeDeferred (hd D List.mem_cons_self), leave_marks hu hn.2 (fun E hE => ?_) fun w' k => h w' ⟨k.os, k.tape, k.output, by rw [k.size]; simp [World.putObj], fun i hi => ?_⟩⟩⟩
    · have hne : E ≠ D := fun e => hn.1 (e ▸ hE)
      exact (World.putObj_heap_other hne).trans (hd E (List.mem_cons_of_mem _ hE))
    · have hne : i ≠ D := fun e => hi (e ▸ List.mem_cons_self)
      exact (k.block i fun hm => hi (List.mem_cons_of_mem _ hm)).trans (World.putObj_heap_other hne)
theorem G.shut {X : Cx} {st : St} {a : Act} {w : World} (g : G X st a w) (hlo : X.B.heap.size ≤ X.lo) : ∃ Ds : List Nat, a.defers = Ds.map mark ∧ Ds.Nodup ∧ (∀ D ∈ Ds, w.heap[D]? = some (.deferred (some []))) ∧ ∀ w', Shut Ds w w' → G X st { a with defers := [] } w' := by
  obtain ⟨Ds, h1, h2, h3⟩ := g.df
  refine ⟨Ds, h1, h2, fun D hD => (h3 D hD).1, fun w' k => ⟨Mk.none rfl, g.sz, g.sl, fun p hp => ⟨(k.block p.1 fun hD => ?_).trans (g.hp p hp).1, (g.hp p hp).2⟩, g.ne, g.nd, ⟨k.os.trans g.kp.os, k.tape.trans g.kp.tape, k.output.trans g.kp.output, by rw [k.size]; exact g.kp.size, fun i hi hm => (k.block i fun hD => by have := (h3 _ hD).2.1; omega).trans (g.kp.block i hi hm)⟩, ⟨X.E.stab _ _ g.ex.J ⟨k.os, k.tape, k.output, Nat.le_of_eq k.size.symm, fun i _ hm => k.block i fun hD => hm ⟨(h3 _ hD).2.2.1, (h3 _ hD).2.2.2⟩⟩, g.ex.hp, by rw [k.size]; exact g.ex.n0⟩⟩⟩
  have h4 := (g.hp p hp).1
  have h5 := g.nd p hp
  rw [(h3 _ hD).1] at h4
  injection h4 with h4
  rw [← h4] at h5
  cases h5
/-- The end by a panic. -/
theorem g_panic {X : Cx} {st : St} {a : Act} {w : World} (g : G X st a w) (hlo : X.B.heap.size ≤ X.lo) {fn : Func} {R : Ending → World → Prop} (hQ : X.Q = bodyPostM Fence.wide 2 X.P fn R) {c : List PanicEntry} (hR : ∀ w, Kept X.M X.B w → Hp st.hp w → R (.panicked c) w) : X.Q (.panic c) a w := by
  rw [hQ]
  obtain ⟨Ds, h1, h2, h3, h4⟩ := g.shut hlo
  show LeavesInM Fence.wide 2 X.P fn a.tmps R a.defers (.panicking c) w
  rw [h1]
  exact leave_marks (by simp) h2 h3 fun w' k => hR w' (h4 w' k).kp (h4 w' k).Hp
/-- A call that panics. -/
theorem run_panics {X : Cx} {k : List KI} {st : St} {fn : Func} {R : Ending → World → Prop} (hQ : X.Q = bodyPostM Fence.wide 2 X.P fn R) (hlo : X.B.heap.size ≤ X.lo) (f : FuncId) (args : Array Value) (d : Option Tmp) (c : List PanicEntry) (h : headCall X.P X.N k st = some (f, args, d)) (hc : ∀ w, Kept X.M X.B w → Hp st.hp w → Calls X.P f args w fun e w' => e = .panicked c ∧ Keeps w w')
    (hR : ∀ w, Kept X.M X.B w → Hp st.hp w → R (.panicked c) w) : Run X k st := by
  obtain ⟨s, hs, hq⟩ := headCall_is h
  intro a w g
  refine head_at hs g ?_
  rw [qrun_run hq w]
  refine (hc w g.kp g.Hp).mono fun e w' ⟨he, hk⟩ => ?_
  subst he
  exact g_panic (g.world hk) hlo hQ hR
/-- A panic. -/
theorem run_panic {X : Cx} {k : List KI} {st : St} {fn : Func} {R : Ending → World → Prop} (hQ : X.Q = bodyPostM Fence.wide 2 X.P fn R) (hlo : X.B.heap.size ≤ X.lo) (s : Sem Next) (d : Option Tmp) (v : Value) (h : headSem X.N k st = some (s, d)) (hq : ∀ w, s.run X.P w = .halt (.panic v) w)
    (hR : ∀ w, Kept X.M X.B w → Hp st.hp w → R (.panicked [{ v, recovered := false }]) w) : Run X k st := by
  intro a w g
  refine head_at h g ?_
  rw [hq w]
  exact g_panic g hlo hQ hR

theorem wpK_ret {X : Cx} : ∀ (k : List KI), wpK X k .ret = X.Q .ret
  | [] => rfl
  | .code _ :: k => wpK_ret k
  | .ops _ _ :: k => wpK_ret k
  | .blk _ :: k => wpK_ret k
  | .lp _ :: k => wpK_ret k
/-- The results, as they are known. hs: in which blocks they lie. -/
def resV (P : Program) (st : St) : List ResultVar → List Nat → Option (List Value × List (Value × Value))
  | [], _ => some ([], [])
  | .tmp t :: r, hs => match look st.sl t, resV P st r hs with
    | some v, some (l, e) => some (v :: l, e)
    | _, _ => none
  | .cell t ty :: r, j :: hs => match look st.sl t, st.hp[j]? with
    | some (.pointer (some ⟨b, off, none⟩)), some (b', .cells c _ _) =>
      match loadV P ty c.toList off, resV P st r hs with
      | some v, some (l, e) => some (v :: l, (.pointer (some ⟨b, 0, none⟩), .pointer (some ⟨b', 0, none⟩)) :: e)
      | _, _ => none
    | _, _ => none
  | _, _ => none
def resVal (l : List Value) : Value := match l with
  | [v] => v
  | l => .tuple l.toArray
theorem resV_run {X : Cx} {st : St} {a : Act} {w : World} (g : G X st a w) : ∀ {r : List ResultVar} {hs : List Nat} {l : List Value} {e : List (Value × Value)}, resV X.P st r hs = some (l, e) → EqAll e →
    (r.mapM fun
    | .tmp t => pure (a.tmps.getD t undef)
    | .cell x t => do loadVar t (← asAddr (a.tmps.getD x undef)) : Sem (List Value)).run X.P w = .ok l w
  | [], hs, l, e, h, he => by
    injection h with h
    injection h with h1 h2
    subst h1
    simp
  | .tmp t :: r, hs, l, e, h, he => by
    unfold resV at h
    split at h
    · rename_i v l1 e1 h1 h2
      injection h with h
      injection h with h3 h4
      subst h3 h4
      have h5 := resV_run g h2 he
      have h6 := g.sl t v h1
      simp only [List.mapM_cons, Sem.run_bind, Sem.run_pure, Result.andThen, h5]
      simp [h6]
    · cases h
  | .cell t ty :: r, [], l, e, h, he => by
    unfold resV at h
    cases h
  | .cell t ty :: r, j :: hs, l, e, h, he => by
    unfold resV at h
    split at h
    · rename_i b off b' c e0 fr h1 h2
      split at h
      · rename_i v l1 e1 h3 h4
        injection h with h
        injection h with h5 h6
        subst h5 h6
        obtain ⟨he1, he2⟩ := he
        have hbb := value_ptr he1
        subst hbb
        have h7 := resV_run g h4 he2
        have h8 := g.sl t _ h1
        have hb := g.hp _ (List.mem_of_getElem? h2)
        have hb1 : w.heap[b]? = some (.cells c.toList.toArray e0 fr) := by simpa using hb.1
        have hl := load_cells (P := X.P) (w := w) (t := ty) (base := 0) (fun i u hi => by rw [Nat.zero_add]; exact cells_of_heap hb1 i u hi) h3
        rw [Nat.zero_add] at hl
        have h9 : (asAddr (a.tmps.getD t undef)).run X.P w = .ok ⟨b, off, none⟩ w := by
          rw [Array.getD_eq_getD_getElem?, h8]
          simp [asAddr]
        have h10 : (loadVar ty ⟨b, off, none⟩).run X.P w = .ok v w := by
          simpa [Instr.loadAt, Instr.sureAddr] using hl
        simp only [List.mapM_cons, Sem.run_bind, Sem.run_pure, Result.andThen, h7, h9, h10]
      · cases h
    · cases h
theorem results_run {X : Cx} {st : St} {a : Act} {w : World} (g : G X st a w) {fn : Func} {hs : List Nat} {l : List Value} {e : List (Value × Value)} (h : resV X.P st fn.results.toList hs = some (l, e)) (he : EqAll e) : (results fn a.tmps).run X.P w = .ok (resVal l) w := by
  have h1 := resV_run g h he
  have h2 : ∀ s : Sem (List Value), s.run X.P w = .ok l w → ((do let vs ← (List.toArray <$> s); pure (if h : vs.size = 1 then vs[0] else .tuple vs)) : Sem Value).run X.P w = .ok (resVal l) w := by
    intro s hs
    simp only [Sem.run_bind, Sem.run_map, hs, Result.andThen, Sem.run_pure]
    congr 1
    match l with
    | [] => rfl
    | [v] => rfl
    | v :: u :: r => simp [resVal]
  unfold results
  rw [Array.mapM_eq_mapM_toList]
  exact h2 _ h1

def isRet (k : List KI) : Bool :=
  match k with
  | [] | .code .ret :: _ => true
  | _ => false
/-- The end. -/
theorem run_end {X : Cx} {k : List KI} {st : St} {fn : Func} {R : Ending → World → Prop} (hQ : X.Q = bodyPostM Fence.wide 2 X.P fn R) (hlo : X.B.heap.size ≤ X.lo) (hk : isRet k = true) (hs : List Nat) (l : List Value) {e : List (Value × Value)} (h : resV X.P st fn.results.toList hs = some (l, e)) (he : EqAll e)
    (hR : ∀ w, Kept X.M X.B w → Hp st.hp w → R (.returned (resVal l)) w) : Run X k st := by
  intro a w g
  have h2 : bodyPostM Fence.wide 2 X.P fn R .ret a w := by
    obtain ⟨Ds, h1, h2, h3, h4⟩ := g.shut hlo
    show LeavesInM Fence.wide 2 X.P fn a.tmps R a.defers .returning w
    rw [h1]
    exact leave_marks (by simp) h2 h3 fun w' k => ⟨_, results_run (h4 w' k) h he, hR w' (h4 w' k).kp (h4 w' k).Hp⟩
  unfold isRet at hk
  split at hk
  · show X.Q .normal a w
    rw [hQ]
    exact h2
  · rename_i k'
    refine wpIn_ret ?_
    rw [wpK_ret, hQ]
    exact h2
  · cases hk

/-- The beginning. -/
def sl0 (args : List Value) : List (Nat × Value) := (List.range args.length).filterMap fun i => (args[i]?).map fun v => (i, v)
theorem look_range {args : List Value} {f : Nat → Nat} (hf : ∀ i j, f i = f j → i = j) : ∀ {is : List Nat} {t : Nat} {v : Value}, look (is.filterMap fun i => (args[i]?).map fun v => (i, v)) t = some v → args[t]? = some v
  | [], t, v, h => by cases h
  | i :: is, t, v, h => by
    rw [List.filterMap_cons] at h
    cases hi : args[i]? with
    | none => rw [hi] at h; exact look_range hf (is := is) h
    | some u =>
      rw [hi] at h
      have h : (bif i == t then some u else look _ t) = some v := h
      by_cases e : i = t
      · subst e
        simp at h
        rw [hi, h]
      · have : (i == t) = false := by simpa using e
        rw [this] at h
        exact look_range hf (is := is) h
theorem calls_run {P : Program} {f : FuncId} {fn : Func} {c : Code} (args : List Value) {w : World} {R : Ending → World → Prop} (hf : P.funcs[f]? = some fn) (hb : fn.body = some c) (M : Nat → Prop) (hp : List (Nat × Obj)) (hh : ∀ p ∈ hp, w.heap[p.1]? = some p.2 ∧ M p.1 ∧ isDef p.2 = false) (hn : hp.Pairwise fun p q => p.1 ≠ q.1) (N : Nat) (hN : fn.ntmps = N) (ha : args.length ≤ N)
    (h : Run { P := P, lo := w.heap.size, rd := none, n := 2, M := M, B := w, N := N, Q := bodyPostM Fence.wide 2 P fn R } [.code c] ⟨sl0 args, hp⟩) : Calls P f args.toArray w R := by
  refine callsIn_wide.1 (callsIn_of_wp_marks (n := 2) hf hb trivial ?_)
  refine h _ w ⟨Mk.none rfl, by simp; omega, fun t v ht => ?_, fun p hp => ⟨(hh p hp).1, fun _ => (hh p hp).2.1⟩, hn, fun p hp => (hh p hp).2.2, Kept.refl _ _, GE.none _ _⟩
  have h1 := look_range (f := id) (fun _ _ h => h) ht
  have hlt : t < args.length := (List.getElem?_eq_some_iff.1 h1).1
  have h2 := (List.getElem?_eq_some_iff.1 h1).2
  simp [Array.getElem?_append, hlt, h2]
end Go.Proofs.Ytfjfkaaflghaiaa

namespace Go.Proofs.Ytfjfkaaflghaiaa
open Go.RowKit

theorem wpIn_loop_g {F : Fence} {n : Nat} {P : Program} {c : Code} {Q : Exit → Act → World → Prop} {σ : Type} (J : σ → Act → World → Prop) (μ : σ → Nat)
    (round : ∀ x a w, J x a w → c.wpIn F n P (Exit.then (fun a' w' => ∃ x', J x' a' w' ∧ μ x' < μ x) Q) a w) {x : σ} {a : Act} {w : World} (h₀ : J x a w) : (Code.loop c).wpIn F n P Q a w := by
  intro b k cs hro hb hr
  have key : ∀ j x a w, μ x = j → J x a w →
      ∃ e a' w', Q e a' w' ∧ ArrivesIn (Machine.fenced P F) P (lone (b.atR a (.code c :: .inLoop c :: k)) cs w) b k cs e a' w' := by
    intro j
    induction j using Nat.strongRecOn with
    | _ j ih =>
      intro x a w hn hI
      obtain ⟨e, a₁, w₁, hq, harr⟩ := round x a w hI b (.inLoop c :: k) cs hro hb hr
      cases e with
      | normal =>
        obtain ⟨x', hI₁, hlt⟩ := hq
        obtain ⟨e₂, a₂, w₂, hq₂, harr₂⟩ := ih (μ x') (hn ▸ hlt) x' a₁ w₁ rfl hI₁
        exact ⟨e₂, a₂, w₂, hq₂, .of_steps (StepsIn.trans harr (.one (fenced_calm hb hr rfl) stepR_inLoop)) harr₂⟩
      | exit id => exact ⟨_, a₁, w₁, hq, .pass (x := .inLoop c) rfl (fun _ _ => .inl (by simp)) harr⟩
      | goto l => exact ⟨_, a₁, w₁, hq, .pass (x := .inLoop c) rfl (fun _ _ => .inl (by simp)) harr⟩
      | ret => exact ⟨_, a₁, w₁, hq, .pass (x := .inLoop c) rfl (fun _ _ => .inl (by simp)) harr⟩
      | panic ch => exact ⟨_, a₁, w₁, hq, .pass (x := .inLoop c) rfl (fun _ _ => .inl (by simp)) harr⟩
      | outgrown => exact ⟨_, a₁, w₁, hq, .pass (x := .inLoop c) rfl (fun _ _ => .inl (by simp)) harr⟩
  obtain ⟨e, a', w', hq, harr⟩ := key _ x a w rfl h₀
  exact ⟨e, a', w', hq, .of_steps (.one (fenced_calm hb hr rfl) stepR_loop) harr⟩

def isLoop (k : List KI) : Bool :=
  match k with
  | .code (.loop _) :: _ => true
  | _ => false
/-- A round: what is in the loop, and what must hold behind it. -/
def bodyK (J : Act → World → Prop) (k : List KI) : List KI :=
  match k with
  | .code (.loop c) :: k => .code c :: .lp J :: k
  | k => k
/-- A loop. x is what turns: S x the state, I x what is so, μ x how much there is left. -/
theorem run_loop {X : Cx} {k : List KI} {st : St} {σ : Type} (S : σ → St) (I : σ → Prop) (μ : σ → Nat) (x : σ) (hk : isLoop k = true) (hI : I x) (hs : S x = st)
    (round : ∀ x, I x → ∀ J : Act → World → Prop, (∀ y, I y → μ y < μ x → ∀ a w, G X (S y) a w → J a w) → Run X (bodyK J k) (S x)) : Run X k st := by
  unfold isLoop at hk
  split at hk
  · rename_i c k'
    intro a w g
    subst hs
    refine wpIn_loop_g (fun y a w => G X (S y) a w ∧ I y) μ (fun y a w ⟨g, hy⟩ => ?_) ⟨g, hI⟩
    refine wpIn_mono ((round y hy (fun a w => ∃ x', (G X (S x') a w ∧ I x') ∧ μ x' < μ y) fun z hz hm a w g => ⟨z, ⟨g, hz⟩, hm⟩) a w g) fun e a w h => ?_
    cases e <;> exact h
  · cases hk
def headLp (k : List KI) : Option (Act → World → Prop) :=
  match k with
  | .lp J :: _ => some J
  | _ => none
/-- The end of a round. -/
theorem run_round {X : Cx} {st : St} {J : Act → World → Prop} {k : List KI} (hk : headLp k = some J) (h : ∀ a w, G X st a w → J a w) : Run X k st := by
  unfold headLp at hk
  split at hk
  · injection hk with hk
    subst hk
    exact h
  · cases hk
end Go.Proofs.Ytfjfkaaflghaiaa

namespace Go.Proofs.Ytfjfkaaflghaiaa
open Go.RowKit

/-- What one operation of a region makes: the slot's value, blocks; by which names (numbers of blocks: those of the list that was there, then new ones). -/
structure Stp where
  names : List Nat := []
  val : List Nat → Value := fun _ => undef
  upd : List (Nat × (List Nat → Obj)) := []
  news : List Nat := []
  slots : List Nat := []
  reads : List Nat := []
  takes : List Nat := []
instance : Inhabited Stp := ⟨{}⟩

/-- A region, the state ahead of it, and the plan. A: for each operation those that surely are done ahead of it. -/
structure Rg where
  ops : Array Oper
  st : St
  pl : List Stp
  A : List (List Nat)
variable (R : Rg)
def Rg.n : Nat := R.ops.size
def Rg.p (i : Nat) : Stp := R.pl.getD i {}
def Rg.an (i : Nat) : List Nat := R.A.getD i []
def Rg.dst (i : Nat) : Option Tmp := (R.ops[i]?).bind (·.dst)
def Rg.deps (i : Nat) : List Nat := ((R.ops[i]?).map fun o => (o.after.toList.filter (Region.binds .any)).map (·.on)).getD []
/-- The block of a name. -/
def Rg.nm (β : Nat → Nat) (id : Nat) : Nat := match R.st.hp[id]? with
  | some p => p.1
  | none => β id
def Rg.v (i : Nat) (β : Nat → Nat) : Value := (R.p i).val ((R.p i).names.map (R.nm β))
/-- Who writes a slot. -/
def Rg.wr (t : Nat) : Option Nat := (List.range R.n).find? fun j => R.dst j == some t
/-- Who writes a block. -/
def Rg.has (j id : Nat) : Bool := (R.p j).upd.any fun q => q.1 == id
def Rg.hwr (id : Nat) : List Nat := (List.range R.n).filter fun j => R.has j id
def Rg.cont (j id : Nat) (β : Nat → Nat) : Option Obj := ((R.p j).upd.find? fun q => q.1 == id).map fun q => q.2 ((R.p j).names.map (R.nm β))
/-- Has an operation that is done taken the block (it is another name's now, or nobody's)? -/
def Rg.tk (S : Nat → Bool) (id : Nat) : Bool := (List.range R.n).any fun j => S j && (R.p j).takes.contains id
/-- A block, if these operations are done. -/
def Rg.hAt0 (S : Nat → Bool) (id : Nat) (β : Nat → Nat) : Option Obj := match ((R.hwr id).filter S).getLast? with
  | some j => R.cont j id β
  | none => (R.st.hp[id]?).map (·.2)
def Rg.hAt (S : Nat → Bool) (id : Nat) (β : Nat → Nat) : Option Obj := bif R.tk S id then none else R.hAt0 S id β
/-- A slot, if these operations are done. -/
def Rg.sAt (S : Nat → Bool) (t : Nat) (β : Nat → Nat) : Option Value := match R.wr t with
  | some j => if S j then some (R.v j β) else look R.st.sl t
  | none => look R.st.sl t
def Rg.inA (i : Nat) : Nat → Bool := fun j => (R.an i).contains j
/-- What an operation finds. -/
def Rg.ns (i : Nat) (β : Nat → Nat) : List (Nat × Value) := (R.p i).slots.map fun t => (t, (R.sAt (R.inA i) t β).getD undef)
def Rg.nh (i : Nat) (β : Nat → Nat) : List (Nat × Obj) := (R.p i).reads.map fun id => (R.nm β id, (R.hAt (R.inA i) id β).getD default)
/-- What it leaves. -/
def Rg.oh (i : Nat) (β : Nat → Nat) : List (Nat × Obj) := ((R.p i).upd.map fun q => (R.nm β q.1, q.2 ((R.p i).names.map (R.nm β)))) ++ ((R.p i).reads.filter fun id => !R.has i id && !(R.p i).takes.contains id).map fun id => (R.nm β id, (R.hAt (R.inA i) id β).getD default)
def putL (d : Option Tmp) (v : Value) (l : List (Nat × Value)) : List (Nat × Value) := match d with
  | some d => (d, v) :: l
  | none => l

/-- Names below are blocks; from here on they are numbers that an operation is free to set. -/
def numB (id : Nat) : Bool := Nat.ble 1000000 id
def Rg.ok (N : Nat) : Bool := (List.range R.n).all fun i =>
  (R.deps i).all (fun j => Nat.blt j i) &&
  ((R.an i).all fun j => Nat.blt j i && ((R.deps i).contains j || (R.deps i).any fun d => (R.an d).contains j)) &&
  (match R.dst i with
    | some t => R.wr t == some i && Nat.blt t N
    | none => true) &&
  ((R.p i).slots.all fun t => match R.wr t with
    | some j => (R.an i).contains j || ((R.an j).contains i && (look R.st.sl t).isSome)
    | none => (look R.st.sl t).isSome) &&
  ((R.p i).reads.all fun id => ((R.st.hp[id]?).isSome || (R.hwr id).any (R.inA i)) && (R.hwr id).all fun j => (R.an i).contains j || j == i || (R.an j).contains i) &&
  ((R.p i).upd.all fun q => (R.p i).news.contains q.1 || (R.p i).reads.contains q.1) &&
  ((R.p i).news.all fun id => (R.st.hp[id]?).isNone && (numB id || R.has i id) && (R.hwr id).all (fun j => !numB id && (j == i || (R.an j).contains i)) && (List.range R.n).all fun j => j == i || !(R.p j).news.contains id) &&
  distinct (R.p i).reads &&
  ((R.p i).names.all fun id => (R.st.hp[id]?).isSome || (R.p i).news.contains id || (R.an i).any fun j => (R.p j).news.contains id) &&
  ((R.p i).takes.all fun id => (R.p i).reads.contains id && !R.has i id && (List.range R.n).all fun j => j == i || (R.an i).contains j || !((R.p j).reads.contains id || R.has j id || (R.p j).takes.contains id))

/-- The context in which one operation is looked at. -/
def Xw (X : Cx) (k : List KI) (w : World) (nh : List (Nat × Obj)) : Cx := { X with B := w, M := fun b => ∃ o, (b, o) ∈ nh, Q := wpK X k }
/-- One operation: what it makes, whatever else there is. -/
def Rg.Tri (X : Cx) (k : List KI) (i : Nat) : Prop := ∀ (β : Nat → Nat) (w : World) (J : Act → World → Prop) (extra : List (Nat × Value)), Kept X.M X.B w → (∀ p ∈ R.nh i β, p.1 < X.B.heap.size → X.M p.1) →
  (∀ β' : Nat → Nat, (∀ id, id ∉ (R.p i).news → β' id = β id) → (∀ id ∈ (R.p i).news, numB id = false → w.heap.size ≤ R.nm β' id ∨ ∃ t ∈ (R.p i).takes, R.nm β' id = R.nm β t) → (((R.p i).news.filter fun id => !numB id).map (R.nm β')).Pairwise (· ≠ ·) → ∀ a' w', G (Xw X k w (R.nh i β)) ⟨putL (R.dst i) (R.v i β') (R.ns i β ++ extra), R.oh i β'⟩ a' w' → J a' w') →
  Run (Xw X k w (R.nh i β)) [.ops R.ops [i], .lp J] ⟨R.ns i β ++ extra, R.nh i β⟩

theorem wpOpIn_Q {F : Fence} {n : Nat} {P : Program} {ops : Array Oper} {Q Q' : Exit → Act → World → Prop} {i : Nat} {K : Act → World → Prop} {a : Act} {w : World} (hq : ∀ c a w, Q (.panic c) a w → Q' (.panic c) a w) (ho : ∀ a w, Q .outgrown a w → Q' .outgrown a w) (h : wpOpIn F n P ops Q i K a w) : wpOpIn F n P ops Q' i K a w := by
  unfold wpOpIn at *
  cases hi : ops[i]? with
  | none => rw [hi] at h; exact h
  | some o =>
    rw [hi] at h
    dsimp only at h ⊢
    split
    · rename_i hw
      rw [if_pos hw] at h
      refine ⟨h.1, ?_⟩
      have h2 := h.2
      revert h2
      cases (o.semAt F.round a.eval).run P w with
      | ok x w' =>
        cases x <;> simp only [Oper.uponIn] <;> first
          | exact id
          | skip
        · rintro ⟨h1, h2⟩
          exact ⟨h1, h2.mono fun e w'' he => by cases e <;> first | exact he | exact hq _ _ _ he | exact (let ⟨a, w, h⟩ := he; ⟨a, w, ho a w h⟩)⟩
        · rintro ⟨h1, h2⟩
          exact ⟨h1, h2.mono fun e w'' he => by cases e <;> first | exact he | exact hq _ _ _ he | exact (let ⟨a, w, h⟩ := he; ⟨a, w, ho a w h⟩)⟩
      | halt x w' =>
        cases x <;> simp only [Oper.uponIn] <;> first
          | exact id
          | exact hq _ _ _
    · rename_i hw
      rw [if_neg hw] at h
      exact h
end Go.Proofs.Ytfjfkaaflghaiaa

namespace Go.Proofs.Ytfjfkaaflghaiaa
open Go.RowKit

structure Rg.Fit (R : Rg) (N : Nat) (i : Nat) : Prop where
  deps : ∀ j ∈ R.deps i, j < i
  an : ∀ j ∈ R.an i, j < i ∧ (j ∈ R.deps i ∨ ∃ d ∈ R.deps i, j ∈ R.an d)
  dst : ∀ t, R.dst i = some t → R.wr t = some i ∧ t < N
  slots : ∀ t ∈ (R.p i).slots, (∃ j, R.wr t = some j ∧ j ∈ R.an i) ∨ (∃ j, R.wr t = some j ∧ i ∈ R.an j ∧ (look R.st.sl t).isSome = true) ∨ (R.wr t = none ∧ (look R.st.sl t).isSome = true)
  reads : ∀ id ∈ (R.p i).reads, ((R.st.hp[id]?).isSome = true ∨ ∃ j ∈ R.hwr id, j ∈ R.an i) ∧ ∀ j ∈ R.hwr id, j ∈ R.an i ∨ j = i ∨ i ∈ R.an j
  upd : ∀ q ∈ (R.p i).upd, q.1 ∈ (R.p i).news ∨ q.1 ∈ (R.p i).reads
  news : ∀ id ∈ (R.p i).news, R.st.hp[id]? = none ∧ (numB id = true ∨ R.has i id = true) ∧ (∀ j ∈ R.hwr id, numB id = false ∧ (j = i ∨ i ∈ R.an j)) ∧ ∀ j, j < R.n → j = i ∨ id ∉ (R.p j).news
  dis : (R.p i).reads.Pairwise (· ≠ ·)
  names : ∀ id ∈ (R.p i).names, (R.st.hp[id]?).isSome = true ∨ id ∈ (R.p i).news ∨ ∃ j ∈ R.an i, id ∈ (R.p j).news
  takes : ∀ id ∈ (R.p i).takes, id ∈ (R.p i).reads ∧ R.has i id = false ∧ ∀ j, j < R.n → j ≠ i → (id ∈ (R.p j).reads ∨ R.has j id = true ∨ id ∈ (R.p j).takes) → j ∈ R.an i
theorem Rg.fit {R : Rg} {N : Nat} (h : R.ok N = true) {i : Nat} (hi : i < R.n) : R.Fit N i := by
  have h := List.all_eq_true.1 h i (List.mem_range.2 hi)
  simp only [Bool.and_eq_true] at h
  obtain ⟨⟨⟨⟨⟨⟨⟨⟨⟨h1, h2⟩, h3⟩, h4⟩, h5⟩, h6⟩, h7⟩, h9⟩, h8⟩, h10⟩ := h
  have blt : ∀ a b : Nat, Nat.blt a b = true → a < b := fun a b h => Nat.le_of_ble_eq_true h
  refine ⟨fun j hj => blt _ _ (List.all_eq_true.1 h1 j hj), fun j hj => ?_, fun t ht => ?_, fun t ht => ?_, fun id hid => ?_, fun q hq => ?_, fun id hid => ?_, distinct_ok h9, fun id hid => ?_, fun id hid => ?_⟩
  · have := List.all_eq_true.1 h2 j hj
    simp only [Bool.and_eq_true, Bool.or_eq_true, List.contains_iff_mem, List.any_eq_true] at this
    exact ⟨blt _ _ this.1, this.2⟩
  · rw [ht] at h3
    simp only [Bool.and_eq_true, beq_iff_eq] at h3
    exact ⟨h3.1, blt _ _ h3.2⟩
  · have := List.all_eq_true.1 h4 t ht
    cases hw : R.wr t with
    | none => rw [hw] at this; exact .inr (.inr ⟨rfl, this⟩)
    | some j =>
      rw [hw] at this
      dsimp only at this
      rw [Bool.or_eq_true, Bool.and_eq_true] at this
      rcases this with this | ⟨h1, h2⟩
      · exact .inl ⟨j, rfl, by simpa using this⟩
      · exact .inr (.inl ⟨j, rfl, by simpa using h1, h2⟩)
  · have := List.all_eq_true.1 h5 id hid
    simp only [Bool.and_eq_true, Bool.or_eq_true, List.any_eq_true, List.all_eq_true, List.contains_iff_mem, beq_iff_eq, Rg.inA] at this
    exact ⟨this.1.imp_right fun ⟨j, h1, h2⟩ => ⟨j, h1, h2⟩, fun j hj => or_assoc.1 (this.2 j hj)⟩
  · have := List.all_eq_true.1 h6 q hq
    simpa only [Bool.or_eq_true, List.contains_iff_mem] using this
  · have := List.all_eq_true.1 h7 id hid
    simp only [Bool.and_eq_true, Option.isNone_iff_eq_none, List.all_eq_true, Bool.or_eq_true, beq_iff_eq, List.mem_range, Bool.not_eq_true', List.contains_eq_mem, decide_eq_false_iff_not] at this
    obtain ⟨⟨⟨a1, a2⟩, a3⟩, a4⟩ := this
    exact ⟨a1, a2, fun j hj => by simpa using a3 j hj, fun j hj => a4 j hj⟩
  · have := List.all_eq_true.1 h8 id hid
    simp only [Bool.or_eq_true, List.contains_iff_mem, List.any_eq_true] at this
    exact or_assoc.1 this
  · have := List.all_eq_true.1 h10 id hid
    rw [Bool.and_eq_true, Bool.and_eq_true, Bool.not_eq_true'] at this
    obtain ⟨⟨a1, a2⟩, a3⟩ := this
    refine ⟨by simpa using a1, a2, fun j hj hne hr => ?_⟩
    have := List.all_eq_true.1 a3 j (List.mem_range.2 hj)
    rw [Bool.or_eq_true, Bool.or_eq_true, Bool.not_eq_true', Bool.or_eq_false_iff, Bool.or_eq_false_iff] at this
    rcases this with (h1 | h1) | ⟨⟨h1, h2⟩, h3⟩
    · exact (hne (by simpa using h1)).elim
    · simpa using h1
    · exfalso
      rcases hr with hr | hr | hr
      · have : (R.p j).reads.contains id = true := by simpa using hr
        rw [h1] at this; cases this
      · rw [h2] at hr; cases hr
      · have : (R.p j).takes.contains id = true := by simpa using hr
        rw [h3] at this; cases this

/-- These operations are done. -/
def Dn (L : Array Bool) : Nat → Bool := fun j => L.getD j false
/-- With each operation all ahead of it are done. -/
def Rg.Down (R : Rg) (S : Nat → Bool) : Prop := ∀ j, j < R.n → S j = true → ∀ d ∈ R.deps j, S d = true
theorem Rg.anc {R : Rg} {N : Nat} (h : R.ok N = true) {S : Nat → Bool} (hS : R.Down S) : ∀ i, i < R.n → (∀ d ∈ R.deps i, S d = true) → ∀ j ∈ R.an i, S j = true := by
  intro i
  induction i using Nat.strongRecOn with
  | _ i ih =>
    intro hi hd j hj
    have f := R.fit h hi
    rcases (f.an j hj).2 with h1 | ⟨d, h1, h2⟩
    · exact hd j h1
    · have hlt := f.deps d h1
      exact ih d hlt (Nat.lt_trans hlt hi) (hS d (Nat.lt_trans hlt hi) (hd d h1)) j h2
theorem Rg.anc' {R : Rg} {N : Nat} (h : R.ok N = true) {S : Nat → Bool} (hS : R.Down S) {j : Nat} (hj : j < R.n) (hs : S j = true) : ∀ k ∈ R.an j, S k = true := R.anc h hS j hj (hS j hj hs)
theorem Rg.hwr_lt {R : Rg} {id j : Nat} (h : j ∈ R.hwr id) : j < R.n := List.mem_range.1 (List.mem_filter.1 h).1
theorem Rg.hwr_has {R : Rg} {id j : Nat} : j ∈ R.hwr id ↔ j < R.n ∧ R.has j id = true := by
  unfold Rg.hwr
  rw [List.mem_filter, List.mem_range]

structure Rg.Inv (R : Rg) (X : Cx) (L : Array Bool) (a : Act) (w : World) (β : Nat → Nat) : Prop where
  df : Mk X.E X.lo a w
  ej : X.E.J w
  en : ∀ b, w.heap.size ≤ b → X.E.n0 b
  eh : ∀ id, (R.hAt (Dn L) id β).isSome = true → X.E.n0 (R.nm β id) ∧ ¬ X.E.D (R.nm β id)
  nd : ∀ id o, R.hAt (Dn L) id β = some o → isDef o = false
  sz : a.tmps.size = X.N
  sl : ∀ t v, R.sAt (Dn L) t β = some v → a.tmps[t]? = some v
  hp : ∀ id o, R.hAt (Dn L) id β = some o → w.heap[R.nm β id]? = some o ∧ (R.nm β id < X.B.heap.size → X.M (R.nm β id))
  inj : ∀ id id', (R.hAt (Dn L) id β).isSome = true → (R.hAt (Dn L) id' β).isSome = true → id ≠ id' → R.nm β id ≠ R.nm β id'
  kp : Kept X.M X.B w

section
variable {R : Rg} {X : Cx} {N : Nat}
theorem cont_some {j id : Nat} {β : Nat → Nat} (h : R.has j id = true) : (R.cont j id β).isSome = true := by
  unfold Rg.has at h
  unfold Rg.cont
  rw [Option.isSome_map, List.find?_isSome]
  simpa [List.any_eq_true] using h
theorem hAt_tk {S : Nat → Bool} {id : Nat} {β : Nat → Nat} (h : R.tk S id = false) : R.hAt S id β = R.hAt0 S id β := by
  unfold Rg.hAt
  rw [h]
  rfl
theorem hAt_un {S : Nat → Bool} {id : Nat} {β : Nat → Nat} (h : (R.hAt S id β).isSome = true) : R.tk S id = false := by
  unfold Rg.hAt at h
  cases ht : R.tk S id with
  | false => rfl
  | true => rw [ht] at h; cases h
theorem tk_is {S : Nat → Bool} {id : Nat} : R.tk S id = true ↔ ∃ j, j < R.n ∧ S j = true ∧ id ∈ (R.p j).takes := by
  unfold Rg.tk
  rw [List.any_eq_true]
  constructor
  · rintro ⟨j, hj, h⟩
    rw [Bool.and_eq_true] at h
    exact ⟨j, List.mem_range.1 hj, h.1, by simpa using h.2⟩
  · rintro ⟨j, hj, h1, h2⟩
    exact ⟨j, List.mem_range.2 hj, by rw [h1]; simpa using h2⟩
theorem tk_no {S : Nat → Bool} {id : Nat} (h : ∀ j, j < R.n → S j = true → id ∉ (R.p j).takes) : R.tk S id = false := by
  cases ht : R.tk S id with
  | false => rfl
  | true =>
    obtain ⟨j, h1, h2, h3⟩ := tk_is.1 ht
    exact (h j h1 h2 h3).elim
theorem hAt_some {S : Nat → Bool} {id : Nat} {β : Nat → Nat} : (R.hAt0 S id β).isSome = true ↔ ((R.st.hp[id]?).isSome = true ∨ ∃ j ∈ R.hwr id, S j = true) := by
  unfold Rg.hAt0
  cases hl : ((R.hwr id).filter S).getLast? with
  | none =>
    rw [List.getLast?_eq_none_iff, List.filter_eq_nil_iff] at hl
    dsimp only
    rw [Option.isSome_map]
    exact ⟨.inl, fun h => h.resolve_right fun ⟨j, h1, h2⟩ => hl j h1 h2⟩
  | some j =>
    have hm := List.mem_filter.1 (List.mem_of_getLast? hl)
    exact ⟨fun _ => .inr ⟨j, hm⟩, fun _ => cont_some (Rg.hwr_has.1 hm.1).2⟩
/-- What is done does not hang on names that are new. -/
theorem names_same (h : R.ok N = true) {S : Nat → Bool} (hS : R.Down S) {i : Nat} (hi : i < R.n) (hsi : S i = false) {β β' : Nat → Nat} (hb : ∀ id, id ∉ (R.p i).news → β' id = β id) {j : Nat} (hj : j < R.n) (hsj : S j = true) : (R.p j).names.map (R.nm β') = (R.p j).names.map (R.nm β) := by
  apply List.map_congr_left
  intro id hid
  unfold Rg.nm
  cases hh : R.st.hp[id]? with
  | some p => rfl
  | none =>
    dsimp only
    refine hb id fun hn => ?_
    have f := R.fit h hi
    rcases (R.fit h hj).names id hid with h1 | h1 | ⟨k, hk, h1⟩
    · rw [hh] at h1; cases h1
    · rcases (f.news id hn).2.2.2 j hj with e | e
      · subst e; rw [hsi] at hsj; cases hsj
      · exact e h1
    · have hkn : k < R.n := Nat.lt_trans ((R.fit h hj).an k hk).1 hj
      rcases (f.news id hn).2.2.2 k hkn with e | e
      · subst e
        have := R.anc' h hS hj hsj k hk
        rw [hsi] at this
        cases this
      · exact e h1
theorem v_same (h : R.ok N = true) {S : Nat → Bool} (hS : R.Down S) {i : Nat} (hi : i < R.n) (hsi : S i = false) {β β' : Nat → Nat} (hb : ∀ id, id ∉ (R.p i).news → β' id = β id) {j : Nat} (hj : j < R.n) (hsj : S j = true) : R.v j β' = R.v j β := by
  unfold Rg.v
  rw [names_same h hS hi hsi hb hj hsj]
theorem cont_same (h : R.ok N = true) {S : Nat → Bool} (hS : R.Down S) {i : Nat} (hi : i < R.n) (hsi : S i = false) {β β' : Nat → Nat} (hb : ∀ id, id ∉ (R.p i).news → β' id = β id) {j : Nat} (hj : j < R.n) (hsj : S j = true) (id : Nat) : R.cont j id β' = R.cont j id β := by
  unfold Rg.cont
  rw [names_same h hS hi hsi hb hj hsj]
theorem hAt_beta (h : R.ok N = true) {S : Nat → Bool} (hS : R.Down S) {i : Nat} (hi : i < R.n) (hsi : S i = false) {β β' : Nat → Nat} (hb : ∀ id, id ∉ (R.p i).news → β' id = β id) (id : Nat) : R.hAt S id β' = R.hAt S id β := by
  unfold Rg.hAt Rg.hAt0
  cases hl : ((R.hwr id).filter S).getLast? with
  | none => rfl
  | some j =>
    have hm := List.mem_filter.1 (List.mem_of_getLast? hl)
    dsimp only
    congr 1
    exact cont_same h hS hi hsi hb (Rg.hwr_lt hm.1) hm.2 id
theorem nm_same {i : Nat} {β β' : Nat → Nat} (hb : ∀ id, id ∉ (R.p i).news → β' id = β id) {id : Nat} (hn : id ∉ (R.p i).news) : R.nm β' id = R.nm β id := by
  unfold Rg.nm
  cases R.st.hp[id]? with
  | some p => rfl
  | none => exact hb id hn
/-- What an operation reads is as it was, whatever else is done. -/
theorem sAt_in (h : R.ok N = true) {S : Nat → Bool} (hS : R.Down S) {i : Nat} (hi : i < R.n) (hsi : S i = false) (ha : ∀ j ∈ R.an i, S j = true) {t : Nat} (ht : t ∈ (R.p i).slots) (β : Nat → Nat) : R.sAt S t β = R.sAt (R.inA i) t β ∧ (R.sAt (R.inA i) t β).isSome = true := by
  unfold Rg.sAt
  rcases (R.fit h hi).slots t ht with ⟨j, h1, h2⟩ | ⟨j, h1, h2, h4⟩ | ⟨h1, h2⟩
  · rw [h1]
    have h3 : R.inA i j = true := by simpa [Rg.inA] using h2
    dsimp only
    rw [if_pos (ha j h2), if_pos h3]
    exact ⟨rfl, rfl⟩
  · have hj : j < R.n := by
      unfold Rg.wr at h1
      exact List.mem_range.1 (List.mem_of_find?_eq_some h1)
    have h5 : S j = false := by
      cases hs : S j with
      | false => rfl
      | true =>
        have := R.anc' h hS hj hs i h2
        rw [hsi] at this
        cases this
    have h6 : R.inA i j = false := by
      have h7 := ((R.fit h hj).an i h2).1
      cases hc : R.inA i j with
      | false => rfl
      | true =>
        have h8 : j ∈ R.an i := by simpa [Rg.inA] using hc
        have := ((R.fit h hi).an j h8).1
        omega
    rw [h1]
    dsimp only
    rw [h5, h6]
    exact ⟨rfl, h4⟩
  · rw [h1]
    exact ⟨rfl, h2⟩
/-- What an operation reads is not taken. -/
theorem tk_in (h : R.ok N = true) {S : Nat → Bool} (hS : R.Down S) {i : Nat} (hi : i < R.n) (hsi : S i = false) (ha : ∀ j ∈ R.an i, S j = true) {id : Nat} (hid : id ∈ (R.p i).reads) : R.tk S id = false ∧ R.tk (R.inA i) id = false := by
  have key : ∀ j, j < R.n → S j = true → id ∉ (R.p j).takes := fun j hj hs ht => by
    have hne : i ≠ j := fun e => by rw [e, hs] at hsi; cases hsi
    have := R.anc' h hS hj hs i (((R.fit h hj).takes id ht).2.2 i hi hne (.inl hid))
    rw [hsi] at this
    cases this
  exact ⟨tk_no key, tk_no fun j hj hA => key j hj (ha j (by simpa [Rg.inA] using hA))⟩
theorem hAt_in (h : R.ok N = true) {S : Nat → Bool} (hS : R.Down S) {i : Nat} (hi : i < R.n) (hsi : S i = false) (ha : ∀ j ∈ R.an i, S j = true) {id : Nat} (hid : id ∈ (R.p i).reads) (β : Nat → Nat) : R.hAt S id β = R.hAt (R.inA i) id β := by
  have e : (R.hwr id).filter S = (R.hwr id).filter (R.inA i) := by
    apply List.filter_congr
    intro j hj
    by_cases hA : j ∈ R.an i
    · rw [ha j hA]
      exact (by simpa [Rg.inA] using hA : R.inA i j = true).symm
    · have h1 : R.inA i j = false := by simpa [Rg.inA] using hA
      rw [h1]
      cases hsj : S j with
      | false => rfl
      | true =>
        exfalso
        rcases ((R.fit h hi).reads id hid).2 j hj with h2 | h2 | h2
        · exact hA h2
        · subst h2; rw [hsi] at hsj; cases hsj
        · have := R.anc' h hS (Rg.hwr_lt hj) hsj i h2
          rw [hsi] at this
          cases this
  obtain ⟨t1, t2⟩ := tk_in h hS hi hsi ha hid
  rw [hAt_tk t1, hAt_tk t2]
  unfold Rg.hAt0
  rw [e]
theorem wr_is {t j : Nat} (h : R.wr t = some j) : j < R.n ∧ R.dst j = some t := by
  unfold Rg.wr at h
  exact ⟨List.mem_range.1 (List.mem_of_find?_eq_some h), by simpa using List.find?_some h⟩
end
end Go.Proofs.Ytfjfkaaflghaiaa

namespace Go.Proofs.Ytfjfkaaflghaiaa
open Go.RowKit

theorem look_all {f : Nat → Option Value} : ∀ {l : List (Nat × Value)}, (∀ p ∈ l, f p.1 = some p.2) → ∀ {t : Nat}, (∃ p ∈ l, p.1 = t) → look l t = f t
  | [], _, _, h => by obtain ⟨p, hp, _⟩ := h; cases hp
  | (s, v) :: l, hf, t, h => by
    show (bif s == t then some v else look l t) = f t
    by_cases e : s = t
    · subst e
      simp
      exact (hf (s, v) List.mem_cons_self).symm
    · have h1 : (s == t) = false := by simpa using e
      rw [h1]
      obtain ⟨p, hp, h2⟩ := h
      rcases List.mem_cons.1 hp with rfl | hp
      · exact (e h2).elim
      · exact look_all (fun p hp => hf p (List.mem_cons_of_mem _ hp)) ⟨p, hp, h2⟩
theorem last_is {l : List Nat} (hs : l.Pairwise (· < ·)) {i : Nat} (hi : i ∈ l) (hl : ∀ j ∈ l, j ≤ i) : l.getLast? = some i := by
  induction l with
  | nil => cases hi
  | cons a l ih =>
    rw [List.pairwise_cons] at hs
    cases l with
    | nil =>
      have : i = a := by simpa using hi
      rw [this]
      rfl
    | cons b l =>
      rw [List.getLast?_cons_cons]
      refine ih hs.2 ?_ (fun j hj => hl j (List.mem_cons_of_mem _ hj))
      rcases List.mem_cons.1 hi with rfl | h
      · have h1 := hs.1 b List.mem_cons_self
        have h2 := hl b (List.mem_cons_of_mem _ List.mem_cons_self)
        omega
      · exact h
theorem pairwise_map_ne {f : Nat → Nat} : ∀ {l : List Nat}, (l.map f).Pairwise (· ≠ ·) → ∀ {x y : Nat}, x ∈ l → y ∈ l → x ≠ y → f x ≠ f y
  | [], _, x, _, hx, _, _ => by cases hx
  | a :: l, h, x, y, hx, hy, hn => by
    rw [List.map_cons, List.pairwise_cons] at h
    rcases List.mem_cons.1 hx with e1 | h1 <;> rcases List.mem_cons.1 hy with e2 | h2
    · exact (hn (e1.trans e2.symm)).elim
    · subst e1
      exact h.1 _ (List.mem_map_of_mem h2)
    · subst e2
      exact (h.1 _ (List.mem_map_of_mem h1)).symm
    · exact pairwise_map_ne h.2 h1 h2 hn
section
variable {R : Rg} {X : Cx}
theorem Dn_set {L : Array Bool} {i : Nat} (hi : i < L.size) (j : Nat) : Dn (L.setIfInBounds i true) j = (j == i || Dn L j) := by
  unfold Dn
  by_cases e : j = i
  · subst e
    simp [hi]
  · rw [getD_set_ne false (Ne.symm e)]
    have : (j == i) = false := by simpa using e
    rw [this, Bool.false_or]
theorem hwr_sorted (id : Nat) (S : Nat → Bool) : ((R.hwr id).filter S).Pairwise (· < ·) := (List.pairwise_lt_range.filter _).filter _

theorem sAt_step (h : R.ok X.N = true) {L : Array Bool} (hL : L.size = R.n) (hS : R.Down (Dn L)) {i : Nat} (hi : i < R.n) (hsi : Dn L i = false) {β β' : Nat → Nat} (hb : ∀ id, id ∉ (R.p i).news → β' id = β id) (t : Nat) :
    R.sAt (Dn (L.setIfInBounds i true)) t β' = if R.dst i = some t then some (R.v i β') else R.sAt (Dn L) t β := by
  have hset := Dn_set (i := i) (by rw [hL]; exact hi : i < L.size)
  by_cases hd : R.dst i = some t
  · rw [if_pos hd]
    unfold Rg.sAt
    rw [((R.fit h hi).dst t hd).1]
    dsimp only
    rw [hset]
    simp
  · rw [if_neg hd]
    unfold Rg.sAt
    cases hw : R.wr t with
    | none => rfl
    | some j =>
      obtain ⟨hj, hdj⟩ := wr_is hw
      have hne : j ≠ i := fun e => hd (e ▸ hdj)
      have h1 : (j == i) = false := by simpa using hne
      dsimp only
      rw [hset, h1, Bool.false_or]
      split
      · rename_i hsj
        rw [v_same h hS hi hsi hb hj hsj]
      · rfl
theorem hAt_step (h : R.ok X.N = true) {L : Array Bool} (hL : L.size = R.n) (hS : R.Down (Dn L)) {i : Nat} (hi : i < R.n) (hsi : Dn L i = false) {β β' : Nat → Nat} (hb : ∀ id, id ∉ (R.p i).news → β' id = β id) (id : Nat) :
    R.hAt (Dn (L.setIfInBounds i true)) id β' = if R.has i id = true then R.cont i id β' else if id ∈ (R.p i).takes then none else R.hAt (Dn L) id β := by
  have hset := Dn_set (i := i) (by rw [hL]; exact hi : i < L.size)
  by_cases hd : R.has i id = true
  · rw [if_pos hd]
    have htk : R.tk (Dn (L.setIfInBounds i true)) id = false := tk_no fun j hj hs ht => by
      have ft := (R.fit h hj).takes id ht
      by_cases e : j = i
      · subst e
        rw [hd] at ft
        cases ft.2.1
      · have h1 : (j == i) = false := by simpa using e
        rw [hset, h1, Bool.false_or] at hs
        have := R.anc' h hS hj hs i (ft.2.2 i hi (Ne.symm e) (.inr (.inl hd)))
        rw [hsi] at this
        cases this
    rw [hAt_tk htk]
    have hl : ((R.hwr id).filter (Dn (L.setIfInBounds i true))).getLast? = some i := by
      refine last_is (hwr_sorted id _) (List.mem_filter.2 ⟨Rg.hwr_has.2 ⟨hi, hd⟩, by rw [hset]; simp⟩) fun j hj => ?_
      obtain ⟨hj1, hj2⟩ := List.mem_filter.1 hj
      by_cases e : j = i
      · omega
      · have h1 : (j == i) = false := by simpa using e
        rw [hset, h1, Bool.false_or] at hj2
        have no : i ∉ R.an j := fun hij => by
          have := R.anc' h hS (Rg.hwr_lt hj1) hj2 i hij
          rw [hsi] at this
          cases this
        have hq : ∃ q ∈ (R.p i).upd, q.1 = id := by
          unfold Rg.has at hd
          simpa [List.any_eq_true] using hd
        obtain ⟨q, hq, rfl⟩ := hq
        rcases (R.fit h hi).upd q hq with hn | hr
        · rcases (((R.fit h hi).news _ hn).2.2.1 j hj1).2 with e' | e'
          · exact (e e').elim
          · exact (no e').elim
        · rcases ((R.fit h hi).reads _ hr).2 j hj1 with e' | e' | e'
          · have := ((R.fit h hi).an j e').1
            omega
          · exact (e e').elim
          · exact (no e').elim
    unfold Rg.hAt0
    rw [hl]
  · rw [if_neg hd]
    by_cases hT : id ∈ (R.p i).takes
    · rw [if_pos hT]
      unfold Rg.hAt
      rw [tk_is.2 ⟨i, hi, by rw [hset]; simp, hT⟩]
      rfl
    rw [if_neg hT, ← hAt_beta h hS hi hsi hb id]
    have etk : R.tk (Dn (L.setIfInBounds i true)) id = R.tk (Dn L) id := by
      cases h2 : R.tk (Dn L) id with
      | true =>
        obtain ⟨j, q1, q2, q3⟩ := tk_is.1 h2
        exact tk_is.2 ⟨j, q1, by rw [hset, q2, Bool.or_true], q3⟩
      | false =>
        refine tk_no fun j q1 q2 q3 => ?_
        rw [hset] at q2
        by_cases e : j = i
        · subst e
          exact hT q3
        · have h1 : (j == i) = false := by simpa using e
          rw [h1, Bool.false_or] at q2
          rw [tk_is.2 ⟨j, q1, q2, q3⟩] at h2
          cases h2
    have e : (R.hwr id).filter (Dn (L.setIfInBounds i true)) = (R.hwr id).filter (Dn L) := by
      apply List.filter_congr
      intro j hj
      have hne : j ≠ i := fun e => hd (e ▸ (Rg.hwr_has.1 hj).2)
      have h1 : (j == i) = false := by simpa using hne
      rw [hset, h1, Bool.false_or]
    unfold Rg.hAt Rg.hAt0
    rw [e, etk]

theorem rg_step (h : R.ok X.N = true) {k : List KI} {L : Array Bool} {a : Act} {w : World} {β : Nat → Nat} (hL : L.size = R.n) (hS : R.Down (Dn L)) (inv : R.Inv X L a w β) {i : Nat} (hi : i < R.n) (hsi : Dn L i = false) (hd : ∀ d ∈ R.deps i, Dn L d = true) (T : R.Tri X k i)
    {K : Act → World → Prop} (hK : ∀ a' w' β', R.Inv X (L.setIfInBounds i true) a' w' β' → K a' w') : wpOpIn X.F X.n X.P R.ops (wpK X k) i K a w := by
  have ha := R.anc h hS i hi hd
  have fit := R.fit h hi
  obtain ⟨extra, hex⟩ : ∃ e, e = (List.range X.N).filterMap fun t => (R.sAt (Dn L) t β).map fun v => (t, v) := ⟨_, rfl⟩
  have hall : ∀ p ∈ R.ns i β ++ extra, R.sAt (Dn L) p.1 β = some p.2 := by
    intro p hp
    rcases List.mem_append.1 hp with hp | hp
    · obtain ⟨t, ht, rfl⟩ := List.mem_map.1 hp
      obtain ⟨h1, h2⟩ := sAt_in h hS hi hsi ha ht β
      obtain ⟨v, hv⟩ := Option.isSome_iff_exists.1 h2
      dsimp only
      rw [h1, hv]
      rfl
    · rw [hex] at hp
      obtain ⟨t, _, ht⟩ := List.mem_filterMap.1 hp
      cases hs : R.sAt (Dn L) t β with
      | none => rw [hs] at ht; cases ht
      | some v =>
        rw [hs] at ht
        injection ht with ht
        subst ht
        exact hs
  have hlook : ∀ t v, R.sAt (Dn L) t β = some v → look (R.ns i β ++ extra) t = some v := by
    intro t v hv
    have hlt : t < X.N := by
      have := (Array.getElem?_eq_some_iff.1 (inv.sl t v hv)).1
      rw [inv.sz] at this
      exact this
    rw [look_all (f := fun t => R.sAt (Dn L) t β) hall ⟨(t, v), List.mem_append_right _ (by rw [hex]; exact List.mem_filterMap.2 ⟨t, List.mem_range.2 hlt, by rw [hv]; rfl⟩), rfl⟩]
    exact hv
  have hread : ∀ id ∈ (R.p i).reads, ∃ o, R.hAt (Dn L) id β = some o ∧ (R.hAt (R.inA i) id β).getD default = o := by
    intro id hid
    have h1 : (R.hAt (Dn L) id β).isSome = true := by
      rw [hAt_tk (tk_in h hS hi hsi ha hid).1]
      exact hAt_some.2 ((fit.reads id hid).1.imp_right fun ⟨j, hj, hA⟩ => ⟨j, hj, ha j hA⟩)
    obtain ⟨o, ho⟩ := Option.isSome_iff_exists.1 h1
    refine ⟨o, ho, ?_⟩
    rw [← hAt_in h hS hi hsi ha hid β, ho]
    rfl
  have hm : ∀ p ∈ R.nh i β, p.1 < X.B.heap.size → X.M p.1 := by
    intro p hp
    obtain ⟨id, hid, rfl⟩ := List.mem_map.1 hp
    obtain ⟨o, ho, _⟩ := hread id hid
    exact (inv.hp id o ho).2
  have g : G (Xw X k w (R.nh i β)) ⟨R.ns i β ++ extra, R.nh i β⟩ a w := by
    refine ⟨inv.df, inv.sz, fun t v ht => ?_, fun p hp => ⟨?_, fun _ => ⟨p.2, hp⟩⟩, ?_, fun p hp => ?_, Kept.refl _ _, ⟨inv.ej, fun p hp => ?_, inv.en⟩⟩
    · refine inv.sl t v ?_
      cases hs : R.sAt (Dn L) t β with
      | some u =>
        have h1 := hlook t u hs
        have h2 : some u = some v := h1.symm.trans ht
        exact h2
      | none =>
        exfalso
        have : ∃ p ∈ R.ns i β ++ extra, p.1 = t := by
          have key : ∀ l : List (Nat × Value), look l t = some v → ∃ p ∈ l, p.1 = t := by
            intro l
            induction l with
            | nil => intro h; cases h
            | cons p l ih =>
              intro h
              have h : (bif p.1 == t then some p.2 else look l t) = some v := h
              by_cases e : p.1 = t
              · exact ⟨p, List.mem_cons_self, e⟩
              · have h1 : (p.1 == t) = false := by simpa using e
                rw [h1] at h
                obtain ⟨q, hq, h2⟩ := ih h
                exact ⟨q, List.mem_cons_of_mem _ hq, h2⟩
          exact key _ ht
        obtain ⟨p, hp, rfl⟩ := this
        have := hall p hp
        rw [hs] at this
        cases this
    · obtain ⟨id, hid, rfl⟩ := List.mem_map.1 hp
      obtain ⟨o, ho, h2⟩ := hread id hid
      dsimp only
      rw [h2]
      exact (inv.hp id o ho).1
    · show ((R.p i).reads.map _).Pairwise _
      rw [List.pairwise_map]
      refine fit.dis.imp_of_mem fun {x y} hx hy hn => ?_
      obtain ⟨o, ho, _⟩ := hread x hx
      obtain ⟨o', ho', _⟩ := hread y hy
      exact inv.inj x y (by rw [ho]; rfl) (by rw [ho']; rfl) hn
    · obtain ⟨id, hid, rfl⟩ := List.mem_map.1 hp
      obtain ⟨o, ho, h2⟩ := hread id hid
      dsimp only
      rw [h2]
      exact inv.nd id o ho
    · obtain ⟨id, hid, rfl⟩ := List.mem_map.1 hp
      obtain ⟨o, ho, h2⟩ := hread id hid
      exact inv.eh id (by rw [ho]; rfl)
  have run := T β w K extra inv.kp hm (fun β' hb hfr hpw a' w' g' => hK a' w' β' ?_) a w g
  · have run : wpOpsIn X.F X.n X.P R.ops (Exit.then K (wpK X k)) [i] a w := run
    rw [wpOpsIn_cons] at run
    exact wpOpIn_Q (fun _ _ _ h => h) (fun _ _ h => h) run
  · have hnum : ∀ id, id ∈ (R.p i).news → ∀ S β, (R.hAt S id β).isSome = true → numB id = false := by
      intro id hid S β hs
      obtain ⟨f1, _, f3, _⟩ := fit.news id hid
      rw [hAt_tk (hAt_un hs)] at hs
      unfold Rg.hAt0 at hs
      cases hl : ((R.hwr id).filter S).getLast? with
      | none => rw [hl, f1] at hs; cases hs
      | some j => exact (f3 j (List.mem_filter.1 (List.mem_of_getLast? hl)).1).1
    have hhas : ∀ id, id ∈ (R.p i).news → numB id = false → R.has i id = true := fun id hid hn => (fit.news id hid).2.1.resolve_left (by rw [hn]; exact Bool.false_ne_true)
    have hold : ∀ id o, R.hAt (Dn L) id β = some o → R.nm β id < w.heap.size := fun id o ho => (Array.getElem?_eq_some_iff.1 (inv.hp id o ho).1).1
    have hpres : ∀ id, (R.hAt (Dn (L.setIfInBounds i true)) id β').isSome = true → id ∉ (R.p i).news → (R.hAt (Dn L) id β).isSome = true := by
      intro id hs hn
      rw [hAt_step h hL hS hi hsi hb id] at hs
      split at hs
      · rename_i hh
        have hq : ∃ q ∈ (R.p i).upd, q.1 = id := by
          unfold Rg.has at hh
          simpa [List.any_eq_true] using hh
        obtain ⟨q, hq, rfl⟩ := hq
        rcases fit.upd q hq with h1 | h1
        · exact (hn h1).elim
        · obtain ⟨o, ho, _⟩ := hread _ h1
          rw [ho]
          rfl
      · split at hs
        · cases hs
        · exact hs
    have hgone : ∀ id, (R.hAt (Dn (L.setIfInBounds i true)) id β').isSome = true → id ∉ (R.p i).takes := by
      intro id hs ht
      rw [hAt_step h hL hS hi hsi hb id, if_neg (by rw [(fit.takes id ht).2.1]; exact Bool.false_ne_true), if_pos ht] at hs
      cases hs
    have htak : ∀ t ∈ (R.p i).takes, (R.hAt (Dn L) t β).isSome = true := fun t ht => by
      obtain ⟨o, ho, _⟩ := hread t (fit.takes t ht).1
      rw [ho]
      rfl
    refine ⟨g'.df, g'.ex.J, g'.ex.n0, fun id hs => ?_, fun id o ho => ?_, g'.sz, fun t v hv => ?_, fun id o ho => ?_, fun id id' h1 h2 hne => ?_, inv.kp.trans g'.kp fun b hb' ⟨o, ho⟩ => hm _ ho hb'⟩
    · by_cases n1 : id ∈ (R.p i).news
      · rcases hfr id n1 (hnum id n1 _ _ hs) with h4 | ⟨t, ht, h4⟩
        · exact ⟨inv.en _ h4, fun hD => absurd (X.E.lt _ _ inv.ej hD) (Nat.not_lt.2 h4)⟩
        · rw [h4]
          exact inv.eh t (htak t ht)
      · rw [nm_same hb n1]
        exact inv.eh id (hpres id hs n1)
    · rw [hAt_step h hL hS hi hsi hb id] at ho
      split at ho
      · unfold Rg.cont at ho
        cases hf : (R.p i).upd.find? (fun q => q.1 == id) with
        | none => rw [hf] at ho; cases ho
        | some q =>
          rw [hf] at ho
          have ho : q.2 ((R.p i).names.map (R.nm β')) = o := by injection ho
          have h3 := g'.nd _ (List.mem_append_left _ (List.mem_map.2 ⟨q, List.mem_of_find?_eq_some hf, rfl⟩))
          rw [← ho]
          exact h3
      · split at ho
        · cases ho
        · exact inv.nd id o ho
    · rw [sAt_step h hL hS hi hsi hb t] at hv
      refine g'.sl t v ?_
      split at hv
      · rename_i hdt
        rw [hdt]
        show (bif t == t then some (R.v i β') else look (R.ns i β ++ extra) t) = some v
        rw [hv]
        simp
      · rename_i hdt
        have h3 := hlook t v hv
        cases hdi : R.dst i with
        | none => exact h3
        | some d =>
          have hne : (d == t) = false := by
            have : d ≠ t := fun e => hdt (by rw [hdi, e])
            simpa using this
          show (bif d == t then some (R.v i β') else look (R.ns i β ++ extra) t) = some v
          rw [hne]
          exact h3
    · rw [hAt_step h hL hS hi hsi hb id] at ho
      split at ho
      · rename_i hh
        have hmem : (R.nm β' id, o) ∈ R.oh i β' := by
          unfold Rg.cont at ho
          cases hf : (R.p i).upd.find? (fun q => q.1 == id) with
          | none => rw [hf] at ho; cases ho
          | some q =>
            rw [hf] at ho
            have ho : q.2 ((R.p i).names.map (R.nm β')) = o := by injection ho
            have hq : q.1 = id := by simpa using List.find?_some hf
            refine List.mem_append_left _ (List.mem_map.2 ⟨q, List.mem_of_find?_eq_some hf, ?_⟩)
            rw [hq, ho]
        have h3 := g'.hp _ hmem
        refine ⟨h3.1, fun hlt => ?_⟩
        obtain ⟨o2, ho2⟩ := h3.2 (Nat.lt_of_lt_of_le hlt inv.kp.size)
        exact hm _ ho2 hlt
      · rename_i hh
        split at ho
        · cases ho
        rename_i hT
        have hn : id ∉ (R.p i).news := fun hn => hh (hhas id hn (hnum id hn _ _ (by rw [ho]; rfl)))
        have h3 := inv.hp id o ho
        rw [nm_same hb hn]
        refine ⟨?_, h3.2⟩
        by_cases hr : id ∈ (R.p i).reads
        · have hmem : (R.nm β' id, o) ∈ R.oh i β' := by
            refine List.mem_append_right _ (List.mem_map.2 ⟨id, List.mem_filter.2 ⟨hr, by rw [Bool.and_eq_true]; exact ⟨by simpa using hh, by simpa using hT⟩⟩, ?_⟩)
            have h4 : R.hAt (R.inA i) id β' = R.hAt (R.inA i) id β := by
              unfold Rg.hAt Rg.hAt0
              cases hl : ((R.hwr id).filter (R.inA i)).getLast? with
              | none => rfl
              | some j =>
                have hmm := List.mem_filter.1 (List.mem_of_getLast? hl)
                have hjA : j ∈ R.an i := by simpa [Rg.inA] using hmm.2
                dsimp only
                congr 1
                exact cont_same h hS hi hsi hb (Rg.hwr_lt hmm.1) (ha j hjA) id
            rw [h4, ← hAt_in h hS hi hsi ha hr β, ho]
            rfl
          have h5 := (g'.hp _ hmem).1
          rw [nm_same hb hn] at h5
          exact h5
        · refine (g'.kp.block _ (hold id o ho) fun ⟨o2, ho2⟩ => ?_).trans h3.1
          obtain ⟨id2, hid2, he⟩ := List.mem_map.1 ho2
          injection he with he1 he2
          obtain ⟨o3, ho3, _⟩ := hread id2 hid2
          exact inv.inj id2 id (by rw [ho3]; rfl) (by rw [ho]; rfl) (fun e => hr (e ▸ hid2)) he1
    · by_cases n1 : id ∈ (R.p i).news
      · by_cases n2 : id' ∈ (R.p i).news
        · exact pairwise_map_ne hpw (List.mem_filter.2 ⟨n1, by rw [hnum id n1 _ _ h1]; rfl⟩) (List.mem_filter.2 ⟨n2, by rw [hnum id' n2 _ _ h2]; rfl⟩) hne
        · obtain ⟨o, ho⟩ := Option.isSome_iff_exists.1 (hpres id' h2 n2)
          have h3 := hold id' o ho
          rw [nm_same hb n2]
          rcases hfr id n1 (hnum id n1 _ _ h1) with h4 | ⟨t, ht, h4⟩
          · omega
          · rw [h4]
            exact inv.inj t id' (htak t ht) (hpres id' h2 n2) fun e => hgone id' h2 (e ▸ ht)
      · obtain ⟨o, ho⟩ := Option.isSome_iff_exists.1 (hpres id h1 n1)
        have h3 := hold id o ho
        rw [nm_same hb n1]
        by_cases n2 : id' ∈ (R.p i).news
        · rcases hfr id' n2 (hnum id' n2 _ _ h2) with h4 | ⟨t, ht, h4⟩
          · omega
          · rw [h4]
            exact inv.inj id t (hpres id h1 n1) (htak t ht) fun e => hgone id h1 (e ▸ ht)
        · rw [nm_same hb n2]
          exact inv.inj id id' (hpres id h1 n1) (hpres id' h2 n2) hne
theorem count_set {L : Array Bool} {i : Nat} (hi : i < L.size) (h : L.getD i true = false) : (L.setIfInBounds i true).toList.count true = L.toList.count true + 1 := by
  have h1 : L.toList[i]? = some false := by
    rw [Array.getElem?_toList]
    simp [Array.getD_eq_getD_getElem?, hi] at h
    simp [hi, h]
  have key : ∀ (l : List Bool) (i : Nat), l[i]? = some false → (l.set i true).count true = l.count true + 1 := by
    intro l
    induction l with
    | nil => intro i h; cases h
    | cons b l ih =>
      intro i h
      cases i with
      | zero =>
        have : b = false := by simpa using h
        subst this
        simp
      | succ i =>
        have := ih i (by simpa using h)
        rw [List.set_cons_succ, List.count_cons, List.count_cons, this]
        omega
  rw [Array.toList_setIfInBounds]
  exact key _ _ h1
theorem deps_of {i : Nat} {o : Oper} (ho : R.ops[i]? = some o) {d : Nat} (hd : d ∈ R.deps i) : ∃ e ∈ o.after, Region.binds .any e = true ∧ e.on = d := by
  unfold Rg.deps at hd
  rw [ho] at hd
  obtain ⟨e, he, rfl⟩ := List.mem_map.1 hd
  have := List.mem_filter.1 he
  exact ⟨e, Array.mem_toList_iff.1 this.1, this.2, rfl⟩
theorem rg_any (h : R.ok X.N = true) {k : List KI} (T : ∀ i, i < R.n → R.Tri X k i) (hend : ∀ (L : Array Bool) a w β, (∀ i, i < R.n → Dn L i = true) → R.Inv X L a w β → wpK X k .normal a w) :
    ∀ (fuel : Nat) (L : Array Bool) (a : Act) (w : World) (β : Nat → Nat), L.size = R.n → L.toList.count true + fuel = R.n → R.Down (Dn L) → R.Inv X L a w β → wpAnyIn X.F X.n X.P .any R.ops (wpK X k) fuel L a w := by
  have hall : ∀ (L : Array Bool), L.size = R.n → R.Down (Dn L) → Region.ready .any R.ops L = [] → ∀ i, i < R.n → Dn L i = true := by
    intro L hL hS hr i
    induction i using Nat.strongRecOn with
    | _ i ih =>
      intro hi
      cases hs : Dn L i with
      | true => rfl
      | false =>
        exfalso
        have hio : i < R.ops.size := hi
        have hm : i ∈ Region.ready .any R.ops L := by
          rw [mem_ready]
          have hlt : i < L.size := by rw [hL]; exact hi
          refine ⟨by unfold Dn at hs; simp [Array.getD_eq_getD_getElem?, hlt] at hs ⊢; exact hs, R.ops[i], by simp [hio], fun e he hb => ?_⟩
          have hd : e.on ∈ R.deps i := by
            unfold Rg.deps
            rw [Array.getElem?_eq_getElem hio]
            exact List.mem_map.2 ⟨e, List.mem_filter.2 ⟨Array.mem_toList_iff.2 he, hb⟩, rfl⟩
          have hlt := (R.fit h hi).deps _ hd
          exact ih _ hlt (Nat.lt_trans hlt hi)
        rw [hr] at hm
        cases hm
  intro fuel
  induction fuel with
  | zero =>
    intro L a w β hL hc hS inv
    have hc : L.toList.count true = L.toList.length := by rw [Array.length_toList, hL]; simpa using hc
    have hrr : Region.ready .any R.ops L = [] := by
      rw [List.eq_nil_iff_forall_not_mem]
      intro i hm
      have hm := mem_ready.1 hm
      obtain ⟨h0, o, ho, _⟩ := hm
      have hi : i < L.size := by rw [hL]; exact (Array.getElem?_eq_some_iff.1 ho).1
      have := List.count_eq_length.1 hc (L[i]) (Array.mem_toList_iff.2 (Array.getElem_mem hi))
      simp [Array.getD_eq_getD_getElem?, hi] at h0
      rw [h0] at this
      cases this
    exact ⟨hrr, hend L a w β (hall L hL hS hrr) inv⟩
  | succ fuel ih =>
    intro L a w β hL hc hS inv
    refine ⟨fun hr => hend L a w β (hall L hL hS hr) inv, fun i hm => ?_⟩
    obtain ⟨h0, o, ho, hal⟩ := mem_ready.1 hm
    have hi : i < R.n := (Array.getElem?_eq_some_iff.1 ho).1
    have hiL : i < L.size := by rw [hL]; exact hi
    have hsi : Dn L i = false := by
      unfold Dn
      simp [Array.getD_eq_getD_getElem?, hiL] at h0 ⊢
      exact h0
    have hset := Dn_set hiL
    have hd : ∀ d ∈ R.deps i, Dn L d = true := fun d hd => by
      obtain ⟨e, he, hb, rfl⟩ := deps_of ho hd
      exact hal e he hb
    refine rg_step h hL hS inv hi hsi hd (T i hi) fun a' w' β' inv' => ih _ a' w' β' (by simpa using hL) (by rw [count_set hiL h0]; omega) (fun j hj hs d hdj => ?_) inv'
    rw [hset] at hs ⊢
    simp only [Bool.or_eq_true, beq_iff_eq] at hs ⊢
    rcases hs with rfl | hs
    · exact .inr (hd d hdj)
    · exact .inr (hS j hj hs d hdj)

def isDraw (k : List KI) : Option (Array Oper × List KI) :=
  match k with
  | .code (.region _ ops true) :: k => some (ops, k)
  | _ => none
/-- What there is in the end: these slots, these blocks. -/
def Rg.fin (R : Rg) (β : Nat → Nat) (ks hk : List Nat) : St := ⟨ks.filterMap fun t => (R.sAt (fun _ => true) t β).map fun v => (t, v), hk.filterMap fun id => (R.hAt (fun _ => true) id β).map fun o => (R.nm β id, o)⟩
theorem sAt_all {L : Array Bool} (hl : ∀ i, i < R.n → Dn L i = true) (t : Nat) (β : Nat → Nat) : R.sAt (fun _ => true) t β = R.sAt (Dn L) t β := by
  unfold Rg.sAt
  cases hw : R.wr t with
  | none => rfl
  | some j =>
    dsimp only
    rw [if_pos rfl, if_pos (hl j (wr_is hw).1)]
theorem tk_cong {S S' : Nat → Bool} (h : ∀ i, i < R.n → S i = S' i) (id : Nat) : R.tk S id = R.tk S' id := by
  unfold Rg.tk
  rw [Bool.eq_iff_iff, List.any_eq_true, List.any_eq_true]
  constructor <;> rintro ⟨j, hj, hc⟩ <;> refine ⟨j, hj, ?_⟩
  · rw [← h j (List.mem_range.1 hj)]; exact hc
  · rw [h j (List.mem_range.1 hj)]; exact hc
theorem hAt_zero {S : Nat → Bool} (h : ∀ i, S i = false) (id : Nat) (β : Nat → Nat) : R.hAt S id β = (R.st.hp[id]?).map (·.2) := by
  rw [hAt_tk (tk_no fun j _ hs => by rw [h] at hs; cases hs)]
  unfold Rg.hAt0
  rw [show (R.hwr id).filter S = [] from List.filter_eq_nil_iff.2 fun j _ => by rw [h]; simp]
  rfl
theorem hAt_all {L : Array Bool} (hl : ∀ i, i < R.n → Dn L i = true) (id : Nat) (β : Nat → Nat) : R.hAt (fun _ => true) id β = R.hAt (Dn L) id β := by
  unfold Rg.hAt Rg.hAt0
  rw [tk_cong (fun i hi => (hl i hi).symm), show (R.hwr id).filter (fun _ => true) = (R.hwr id).filter (Dn L) from List.filter_congr fun j hj => (hl j (Rg.hwr_lt hj)).symm]
theorem look_fm {f : Nat → Option Value} : ∀ {ks : List Nat} {t : Nat} {v : Value}, look (ks.filterMap fun t => (f t).map fun v => (t, v)) t = some v → f t = some v
  | [], t, v, h => by cases h
  | s :: ks, t, v, h => by
    rw [List.filterMap_cons] at h
    cases hs : f s with
    | none =>
      rw [hs] at h
      exact look_fm (ks := ks) h
    | some u =>
      rw [hs] at h
      have h : (bif s == t then some u else look _ t) = some v := h
      by_cases e : s = t
      · subst e
        simp at h
        rw [hs, h]
      · have : (s == t) = false := by simpa using e
        rw [this] at h
        exact look_fm (ks := ks) h
theorem fm_pairwise {f : Nat → Option Obj} {g : Nat → Nat} (hinj : ∀ id id', (f id).isSome = true → (f id').isSome = true → id ≠ id' → g id ≠ g id') : ∀ {l : List Nat}, l.Pairwise (· ≠ ·) → (l.filterMap fun id => (f id).map fun o => (g id, o)).Pairwise fun p q => p.1 ≠ q.1
  | [], _ => List.Pairwise.nil
  | id :: l, hp => by
    rw [List.pairwise_cons] at hp
    rw [List.filterMap_cons]
    cases ho : f id with
    | none => exact fm_pairwise hinj hp.2
    | some o =>
      refine List.pairwise_cons.2 ⟨fun q hq => ?_, fm_pairwise hinj hp.2⟩
      obtain ⟨id2, hid2, h3⟩ := List.mem_filterMap.1 hq
      cases ho2 : f id2 with
      | none => rw [ho2] at h3; cases h3
      | some o2 =>
        rw [ho2] at h3
        injection h3 with h3
        subst h3
        exact hinj id id2 (by rw [ho]; rfl) (by rw [ho2]; rfl) (hp.1 _ hid2)
/-- A region that draws its order. -/
theorem run_draw {k k' : List KI} {ops : Array Oper} {st : St} (pl : List Stp) (A : List (List Nat)) (hm : X.P.follows .mixedOrders = true) (hk : isDraw k = some (ops, k')) (hok : Rg.ok ⟨ops, st, pl, A⟩ X.N = true) (ks hk' : List Nat) (hd : distinct hk' = true)
    (T : ∀ i, i < ops.size → Rg.Tri ⟨ops, st, pl, A⟩ X k' i) (hr : ∀ β, Run X k' (Rg.fin ⟨ops, st, pl, A⟩ β ks hk')) : Run X k st := by
  unfold isDraw at hk
  split at hk
  · rename_i id ops' k1
    injection hk with hk
    injection hk with h1 h2
    subst h1 h2
    intro a w g
    refine wpIn_region_any hm ?_
    have gd : ∀ i, Dn (Array.replicate ops'.size false) i = false := fun i => by
      unfold Dn
      rw [Array.getD_eq_getD_getElem?]
      by_cases hi : i < ops'.size
      · simp [hi]
      · simp [hi]
    have k1' : Keeps w { w with drawn := w.drawn + 1 } := (Keeps.refl w).drew
    have g1 := g.world k1'
    refine rg_any (R := ⟨ops', st, pl, A⟩) hok T (fun L a w β hl inv => ?_) _ _ _ _ (fun _ => 0) (by simp [Rg.n]) ?_ (fun j _ hj => by rw [gd] at hj; cases hj) ⟨g1.df, g1.ex.J, g1.ex.n0, fun id hs => ?_, fun id o ho => ?_, g1.sz, fun t v hv => ?_, fun id o ho => ?_, fun id id' h1 h2 hne => ?_, g1.kp⟩
    · refine hr β a w ⟨inv.df, inv.sz, fun t v ht => inv.sl t v ?_, fun p hp => ?_, ?_, fun p hp => ?_, inv.kp, ⟨inv.ej, fun p hp => ?_, inv.en⟩⟩
      · rw [← sAt_all hl]
        exact look_fm ht
      · obtain ⟨id, _, h3⟩ := List.mem_filterMap.1 hp
        cases ho : Rg.hAt ⟨ops', st, pl, A⟩ (fun _ => true) id β with
        | none => rw [ho] at h3; cases h3
        | some o =>
          rw [ho] at h3
          injection h3 with h3
          subst h3
          rw [hAt_all hl] at ho
          exact inv.hp id o ho
      · refine fm_pairwise (fun id id' h1 h2 hne => ?_) (distinct_ok hd)
        rw [hAt_all hl] at h1 h2
        exact inv.inj id id' h1 h2 hne
      · obtain ⟨id, _, h3⟩ := List.mem_filterMap.1 hp
        cases ho : Rg.hAt ⟨ops', st, pl, A⟩ (fun _ => true) id β with
        | none => rw [ho] at h3; cases h3
        | some o =>
          rw [ho] at h3
          injection h3 with h3
          subst h3
          rw [hAt_all hl] at ho
          exact inv.nd id o ho
      · obtain ⟨id, _, h3⟩ := List.mem_filterMap.1 hp
        cases ho : Rg.hAt ⟨ops', st, pl, A⟩ (fun _ => true) id β with
        | none => rw [ho] at h3; cases h3
        | some o =>
          rw [ho] at h3
          injection h3 with h3
          subst h3
          rw [hAt_all hl] at ho
          exact inv.eh id (by rw [ho]; rfl)
    · simp [Rg.n, List.count_replicate]
    · rw [hAt_zero gd] at hs
      have hs : ((st.hp[id]?).map (·.2)).isSome = true := hs
      unfold Rg.nm
      cases hh : st.hp[id]? with
      | none => rw [hh] at hs; cases hs
      | some p => exact g1.ex.hp p (List.mem_of_getElem? hh)
    · rw [hAt_zero gd] at ho
      have ho : (st.hp[id]?).map (·.2) = some o := ho
      cases hh : st.hp[id]? with
      | none => rw [hh] at ho; cases ho
      | some p =>
        rw [hh] at ho
        injection ho with ho
        subst ho
        exact g1.nd p (List.mem_of_getElem? hh)
    · refine g1.sl t v ?_
      unfold Rg.sAt at hv
      cases hw : Rg.wr ⟨ops', st, pl, A⟩ t with
      | none => rw [hw] at hv; exact hv
      | some j =>
        rw [hw] at hv
        dsimp only at hv
        rw [gd] at hv
        exact hv
    · rw [hAt_zero gd] at ho
      have ho : (st.hp[id]?).map (·.2) = some o := ho
      unfold Rg.nm
      cases hh : st.hp[id]? with
      | none => rw [hh] at ho; cases ho
      | some p =>
        rw [hh] at ho
        injection ho with ho
        subst ho
        exact g1.hp p (List.mem_of_getElem? hh)
    · rw [hAt_zero gd] at h1 h2
      have h1 : ((st.hp[id]?).map (·.2)).isSome = true := h1
      have h2 : ((st.hp[id']?).map (·.2)).isSome = true := h2
      unfold Rg.nm
      cases hh : st.hp[id]? with
      | none => rw [hh] at h1; cases h1
      | some p =>
        cases hh' : st.hp[id']? with
        | none => rw [hh'] at h2; cases h2
        | some p' =>
          exact pairwise_ne g1.ne hh hh' hne
  · cases hk
end
end Go.Proofs.Ytfjfkaaflghaiaa

namespace Go.Proofs.Ytfjfkaaflghaiaa
open Go.RowKit

theorem one_pw (p : Nat → Bool) (f : Nat → Nat) (x : Nat) : (([x].filter p).map f).Pairwise (· ≠ ·) := by
  rw [List.filter_cons]
  split
  · exact List.pairwise_singleton _ _
  · exact List.Pairwise.nil
section
variable {R : Rg} {X : Cx} {k : List KI} {i : Nat}
theorem putL_put (d : Option Tmp) (v : Value) (l : List (Nat × Value)) (hp : List (Nat × Obj)) : (⟨l, hp⟩ : St).put d v = ⟨putL d v l, hp⟩ := by cases d <;> rfl
theorem G.pick {st : St} {a : Act} {w : World} (h : G X st a w) {hk : List Nat} (hd : distinct hk = true) : G X ⟨st.sl, hk.filterMap fun j => st.hp[j]?⟩ a w :=
  ⟨h.df, h.sz, h.sl, (h.trim (ks := []) hd).hp, (h.trim (ks := []) hd).ne, (h.trim (ks := []) hd).nd, h.kp, (h.trim (ks := []) hd).ex⟩
def quietOut (P : Program) (N : Nat) (ov : List (Nat × Value)) (hs : List Nat) (hk : List Nat) (ops : Array Oper) (i : Nat) (st : St) : Option (St × List (Value × Value)) :=
  (ops[i]?).bind fun o => bif dstOk N o.dst then (doOp P ov hs ops o st).map fun r => (⟨r.1.sl, hk.filterMap fun j => r.1.hp[j]?⟩, r.2.2) else none
theorem tri_quiet (ov : (Nat → Nat) → List (Nat × Value)) (hs hk : List Nat) (e : (Nat → Nat) → List (Value × Value)) (hn : (R.p i).news = []) (h : ∀ β extra, quietOut X.P X.N (ov β) hs hk R.ops i ⟨R.ns i β ++ extra, R.nh i β⟩ = some (⟨putL (R.dst i) (R.v i β) (R.ns i β ++ extra), R.oh i β⟩, e β)) (hd : distinct hk = true) (he : ∀ β, EqAll (e β)) : R.Tri X k i := by
  intro β w J extra hkp hm hJ
  have h := h β extra
  unfold quietOut at h
  cases ho : R.ops[i]? with
  | none => rw [ho] at h; cases h
  | some o =>
    rw [ho] at h
    have h : (bif dstOk X.N o.dst then (doOp X.P (ov β) hs R.ops o ⟨R.ns i β ++ extra, R.nh i β⟩).map (fun r => ((⟨r.1.sl, hk.filterMap fun j => r.1.hp[j]?⟩ : St), r.2.2)) else none) = _ := h
    cases hds : dstOk X.N o.dst with
    | false => rw [hds] at h; cases h
    | true =>
      rw [hds] at h
      dsimp only [cond_true] at h
      cases hdo : doOp X.P (ov β) hs R.ops o ⟨R.ns i β ++ extra, R.nh i β⟩ with
      | none => rw [hdo] at h; cases h
      | some r =>
        obtain ⟨st', hs', e'⟩ := r
        rw [hdo] at h
        injection h with h
        injection h with h1 h2
        subst h2
        refine do_ok (X := Xw X k w (R.nh i β)) ho hds hdo (he β) (nx_ok (k' := [.lp J]) rfl fun a' w' g => hJ β (fun _ _ => rfl) (fun id hid => by rw [hn] at hid; cases hid) (by rw [hn]; exact List.Pairwise.nil) a' w' ?_)
        have := g.pick hd
        rw [← h1]
        exact this
def updB (β : Nat → Nat) (id b : Nat) : Nat → Nat := fun j => bif j == id then b else β j
theorem tri_new (nid : Nat) (O : (Nat → Nat) → Obj) (V : (Nat → Nat) → Nat → Value) (hk : List Nat) (hn : (R.p i).news = [nid]) (h : ∀ β extra b, headNew X.P X.N b [.ops R.ops [i]] ⟨R.ns i β ++ extra, R.nh i β⟩ = some (O β, V β b, R.dst i)) (hd : distinct hk = true) (hv : ∀ β b, R.v i (updB β nid b) = V β b) (ho : ∀ β b, (hk.filterMap fun j => ((b, O β) :: R.nh i β)[j]?) = R.oh i (updB β nid b)) (hb : ∀ β b, R.nm (updB β nid b) nid = b) : R.Tri X k i := by
  intro β w J extra hkp hm hJ
  have key : ∀ b, headNew X.P X.N b [.ops R.ops [i], .lp J] ⟨R.ns i β ++ extra, R.nh i β⟩ = some (O β, V β b, R.dst i) := fun b => h β extra b
  refine run_new (X := Xw X k w (R.nh i β)) (O β) (V β) (R.dst i) key fun b hb' => nx_ok (k' := [.lp J]) rfl fun a' w' g => hJ (updB β nid b) (fun id hid => ?_) (fun id hid _ => ?_) ?_ a' w' ?_
  · rw [hn] at hid
    have : (id == nid) = false := by simpa using hid
    unfold updB
    rw [this]
    rfl
  · rw [hn] at hid
    have : id = nid := by simpa using hid
    rw [this, hb]
    exact .inl hb'
  · rw [hn]
    exact one_pw _ _ nid
  · have := g.pick hd
    rw [putL_put] at this
    rw [hv, ← ho]
    exact this
theorem tri_call (f : FuncId) (args : (Nat → Nat) → Array Value) (hn : (R.p i).news = []) (h : ∀ β extra, headCall X.P X.N [.ops R.ops [i]] ⟨R.ns i β ++ extra, R.nh i β⟩ = some (f, args β, R.dst i)) (ho : ∀ β, R.oh i β = R.nh i β) (hc : ∀ β w, Kept X.M X.B w → Hp (R.nh i β) w → Calls X.P f (args β) w (Ret (R.v i β) w)) : R.Tri X k i := by
  intro β w J extra hkp hm hJ
  have key : headCall X.P X.N [.ops R.ops [i], .lp J] ⟨R.ns i β ++ extra, R.nh i β⟩ = some (f, args β, R.dst i) := h β extra
  refine run_ret1 (X := Xw X k w (R.nh i β)) f (args β) (R.dst i) (R.v i β) key (fun w1 k1 k2 => hc β w1 (hkp.trans k1 fun b hb ⟨o, ho⟩ => hm _ ho hb) k2) (nx_ok (k' := [.lp J]) rfl fun a' w' g => hJ β (fun _ _ => rfl) (fun id hid => by rw [hn] at hid; cases hid) (by rw [hn]; exact List.Pairwise.nil) a' w' ?_)
  rw [putL_put] at g
  rw [ho]
  exact g
/-- An operation whose value is found by a law. -/
theorem tri_v (s : (Nat → Nat) → Sem Next) (hn : (R.p i).news = []) (h : ∀ β extra, headSem X.N [.ops R.ops [i]] ⟨R.ns i β ++ extra, R.nh i β⟩ = some (s β, R.dst i)) (ho : ∀ β, R.oh i β = R.nh i β) (hq : ∀ β w, Kept X.M X.B w → Hp (R.nh i β) w → (s β).run X.P w = .ok (.value (R.v i β)) w) : R.Tri X k i := by
  intro β w J extra hkp hm hJ
  have key : headSem X.N [.ops R.ops [i], .lp J] ⟨R.ns i β ++ extra, R.nh i β⟩ = some (s β, R.dst i) := h β extra
  refine run_v (X := Xw X k w (R.nh i β)) (s β) (R.dst i) (R.v i β) key (fun w1 k1 k2 => hq β w1 (hkp.trans k1 fun b hb ⟨o, ho⟩ => hm _ ho hb) k2) (nx_ok (k' := [.lp J]) rfl fun a' w' g => hJ β (fun _ _ => rfl) (fun id hid => by rw [hn] at hid; cases hid) (by rw [hn]; exact List.Pairwise.nil) a' w' ?_)
  rw [putL_put] at g
  rw [ho]
  exact g
end
/-- So for all below n. -/
def AllB : Nat → (Nat → Prop) → Prop
  | 0, _ => True
  | n + 1, p => AllB n p ∧ p n
theorem allB {p : Nat → Prop} : ∀ {n : Nat}, AllB n p → ∀ i, i < n → p i
  | 0, _, i, h => absurd h (Nat.not_lt_zero i)
  | n + 1, ⟨h1, h2⟩, i, h => by
    rcases Nat.lt_or_ge i n with h3 | h3
    · exact allB h1 i h3
    · have : i = n := by omega
      subst this
      exact h2
end Go.Proofs.Ytfjfkaaflghaiaa
