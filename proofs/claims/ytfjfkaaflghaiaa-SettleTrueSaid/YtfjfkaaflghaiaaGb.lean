/-
  ENGINE, tenth part: small laws for the values.
  ENGINE, eleventh part: calls of yield; what an iterator gives; loops in whose rounds yield is called.
  ENGINE, twelfth part: a range over a function.
  ENGINE, thirteenth part: rows that grow, and rows that are read and written at a place that is not written out.
  ENGINE, fourteenth part: a call that panics in a region that draws its order; a call that writes to a block of its caller's; a call that makes a block; a loop's round by itself.
  ENGINE, fifteenth part: iterators: what is proved of a function that calls yield.
  ENGINE, sixteenth part: rows of structs, by what lies at each place.
  ENGINE, seventeenth part: maps.
  ENGINE, eighteenth part: bits.
  ENGINE: rows of elements that grow and shrink in place: cuts, append where there is room, copy, clear.
  ENGINE: calls that make several blocks; append of nothing; comparing structs.
  ENGINE: the laws of a region that draws its order, with a name in front of what they say, so that nothing is unfolded while a text is read.
  ENGINE: an element of a row of elements read and written.
  ENGINE: maps from numbers to true, as sets.
  ENGINE: a call that writes to a block of its caller's and gives a value, in a region that draws its order.
  ENGINE: appends in a region that draws its order: to a row with room, to a row that must grow, to nil. What is not known of the new row is how much more than needed it can hold: a number among the names.
  ENGINE: appends in a region that draws its order, as rows of elements.
  ENGINE: a call that makes blocks and writes to one of its caller's.
  ENGINE: maps that keep what a function gives, by structs.
  ENGINE: a region that draws its order, of which from one operation on each one waits for all ahead of it: the first ones in any order, then the others one after the other.
  ENGINE: elements of array values.
  ENGINE: an append, in a region that draws its order, to a row that was made in the same region: whether it has room is a number that the world draws, so that both ways have one name: the row is another one's from then on, which has the old block or a new one.
  ENGINE: in a region that draws its order: a call that makes a block which two numbers tell of; a slice that is made.
  ENGINE: one cell of an element of a row is written.
  ENGINE: iterators that write to a block of others.
-/
import Derived.Test.YtfjfkaaflghaiaaGa
import Derived.IntWalk
import Derived.RangeFuncSeq
import Derived.RangeFuncRecord
import Derived.Laws.AppendOwn
import Derived.Laws.MakeOwn
import Derived.Scope
import Derived.Maps.RangeRun
import Derived.Laws.Shifts
import Derived.Laws.CopyOwn
import Derived.Laws.IdiomCopy
import Derived.Laws.Slices
import Derived.Laws.StructEq
namespace Go.Proofs.Ytfjfkaaflghaiaa
open Go.RowKit

def isDraw' (k : List KI) : Bool :=
  match k with
  | .code (.region _ _ true) :: _ => true
  | _ => false
def drawOps (k : List KI) : Array Oper :=
  match k with
  | .code (.region _ ops true) :: _ => ops
  | _ => #[]
/-- A region that draws its order, as the texts use it. -/
theorem draw {X : Cx} {k : List KI} {st : St} (n : Nat) (pl : List Stp) (A : List (List Nat)) (hm : X.P.follows .mixedOrders = true) (hk : isDraw' k = true) (hn : (drawOps k).size = n) (hok : Rg.ok ⟨drawOps k, st, pl, A⟩ X.N = true) (ks hk' : List Nat) (hd : distinct hk' = true)
    (T : AllB n fun i => Rg.Tri ⟨drawOps k, st, pl, A⟩ X k.tail i) (S : (Nat → Nat) → St) (hS : ∀ β, Rg.fin ⟨drawOps k, st, pl, A⟩ β ks hk' = S β) (hr : ∀ β, Run X k.tail (S β)) : Run X k st := by
  unfold isDraw' at hk
  split at hk
  · rename_i id ops k1
    exact run_draw pl A hm (k' := k1) (ops := ops) rfl hok ks hk' hd (fun i hi => allB T i (by rw [← hn]; exact hi)) fun β => by
      have h := hr β
      rw [← hS β] at h
      exact h
  · cases hk

theorem wr {x : Int} (h1 : -9223372036854775808 ≤ x) (h2 : x ≤ 9223372036854775807) : Value.int .i64 (IntKind.i64.wrap x) = .int .i64 x := congrArg _ (IntWalk.i64_in _ ⟨h1, h2⟩)
theorem bo {b c : Bool} (h : b = c) : Value.bool b = .bool c := congrArg _ h
theorem io {k : IntKind} {b c : Int} (h : b = c) : Value.int k b = .int k c := congrArg _ h
theorem mn (k : IntKind) (x y : Int) : Value.int k (if y < x then y else x) = .int k (min x y) := congrArg _ (by rw [Int.min_def]; split <;> split <;> omega)
theorem mx (k : IntKind) (x y : Int) : Value.int k (if x < y then y else x) = .int k (max x y) := congrArg _ (by rw [Int.max_def]; split <;> split <;> omega)
/-- An element of a slice. -/
theorem idx_run {P : Program} {t e : TypeId} {n : Nat} (hu : P.underlying t = some (.slice e)) (hs : tySize P e = some n) (b o : Nat) (len cap : Nat) (k : IntKind) (i : Nat) (hi : i < len) (w : World) :
    (Instr.indexAt t (.slice (some ⟨b, o, none⟩) len cap) (.int k (i : Int)) >>= fun v => pure (Next.value v)).run P w = .ok (.value (.pointer (some ⟨b, o + i * n, none⟩))) w := by
  have h1 := sizeOf_run hs w
  have h2 : (0 : Int) ≤ (i : Int) ∧ (i : Int) < (len : Int) := ⟨by omega, by omega⟩
  simp only [Instr.indexAt, asIntOf, Go.underlying, program, Sem.run_bind, Sem.run_pure, Result.andThen]
  simp [Sem.run, hu, h1, Result.andThen, add_none]
  simp [hi]
/-- A load of memory that came in. -/
theorem load_in {P : Program} {t : TypeId} {M : Nat → Prop} {B w : World} (k : Kept M B w) {b base off : Nat} (hM : ¬ M b) (c : List Value) (hc : ∀ i u, c[i]? = some u → B.cell? ⟨b, base + i, none⟩ = some u) {v : Value} (hv : loadV P t c off = some v) : (Instr.loadAt t (.pointer (some ⟨b, base + off, none⟩)) >>= fun v => pure (Next.value v)).run P w = .ok (.value v) w := by
  have h := load_cells (P := P) (w := w) (t := t) (fun i u hi => k.cell (hc i u hi) hM) hv
  simp only [Sem.run_bind, h, Result.andThen, Sem.run_pure]
end Go.Proofs.Ytfjfkaaflghaiaa

namespace Go.Proofs.Ytfjfkaaflghaiaa
open Go.RowKit

def Cx.withE (X : Cx) (E : Ext) : Cx := { X with E := E }
theorem wpK_E {X : Cx} {E : Ext} : ∀ (k : List KI), wpK (X.withE E) k = wpK X k
  | [] => rfl
  | .code c :: k => by
    show Exit.then (fun a w => c.wpIn X.F X.n X.P (wpK (X.withE E) k) a w) (wpK (X.withE E) k) = _
    rw [wpK_E k]
    rfl
  | .ops o l :: k => by
    show Exit.then (fun a w => wpOpsIn X.F X.n X.P o (wpK (X.withE E) k) l a w) (wpK (X.withE E) k) = _
    rw [wpK_E k]
    rfl
  | .blk id :: k => by
    show Exit.inBlock id (wpK (X.withE E) k) = _
    rw [wpK_E k]
    rfl
  | .lp J :: k => by
    show Exit.then J (wpK (X.withE E) k) = _
    rw [wpK_E k]
    rfl
def YieldW (P : Program) (l : Nat) (args : Array Value) (w : World) (R : Ending → World → Prop) : Prop := YieldAt Fence.wide 0 P l args w R
/-- A call of yield. -/
theorem run_yield {X : Cx} {k : List KI} {st : St} (l : Nat) (args : Array Value) (d : Option Tmp) (h : headSem X.N k st = some (Instr.yield l args, d)) (hDM : ∀ b, b < X.B.heap.size → X.E.D b → X.M b) (Ok : Ext → Bool → Prop)
    (hy : ∀ w, X.E.J w → Kept X.M X.B w → YieldW X.P l args w fun e w' => ∃ E' t, Ok E' t ∧ E'.n0 = X.E.n0 ∧ e = .returned (.bool t) ∧ E'.J w' ∧ Kept X.E.D w w' ∧ ∀ b, E'.D b → X.E.D b ∨ w.heap.size ≤ b)
    (hr : ∀ E' t, Ok E' t → E'.n0 = X.E.n0 → (∀ b, E'.D b → X.E.D b ∨ X.B.heap.size ≤ b) → Run (X.withE E') (nextK k) (st.put d (.bool t))) : Run X k st := by
  intro a w g
  refine head_at h g ?_
  obtain ⟨fn, tmps, assign, body, hrun, hround⟩ := hy w g.ex.J g.kp
  rw [hrun]
  refine hround.mono fun e w' ⟨E', t, hok, hn0, he, hJ, hk, hsub⟩ => ?_
  subst he
  have hlt : ∀ p ∈ st.hp, p.1 < w.heap.size := fun p hp => (Array.getElem?_eq_some_iff.1 (g.hp p hp).1).1
  have g' : G (X.withE E') st a w' := by
    refine ⟨?_, g.sz, g.sl, fun p hp => ⟨(hk.block _ (hlt p hp) (g.ex.hp p hp).2).trans (g.hp p hp).1, (g.hp p hp).2⟩, g.ne, g.nd, g.kp.trans hk fun b hb hD => hDM b hb hD, ⟨hJ, fun p hp => ⟨?_, fun hD => ?_⟩, ?_⟩⟩
    · obtain ⟨Ds, h1, h2, h3⟩ := g.df
      refine ⟨Ds, h1, h2, fun D hD => ?_⟩
      obtain ⟨h4, h5, h6, h7⟩ := h3 D hD
      have h8 := (Array.getElem?_eq_some_iff.1 h4).1
      refine ⟨(hk.block D h8 h7).trans h4, h5, ?_, fun hE => ?_⟩
      · show E'.n0 D
        rw [hn0]
        exact h6
      · rcases hsub D hE with h9 | h9
        · exact h7 h9
        · omega
    · show E'.n0 p.1
      rw [hn0]
      exact (g.ex.hp p hp).1
    · rcases hsub p.1 hD with h9 | h9
      · exact (g.ex.hp p hp).2 h9
      · have := hlt p hp
        omega
    · show ∀ b, w'.heap.size ≤ b → E'.n0 b
      rw [hn0]
      exact fun b hb => g.ex.n0 b (Nat.le_trans hk.size hb)
  have := hr E' t hok hn0 (fun b hb => (hsub b hb).imp_right fun h => Nat.le_trans g.kp.size h) _ _ (g'.put (X := X.withE E') (headSem_dst h) (.bool t))
  rw [wpK_E] at this
  exact this

/-- What an iterator gives: lists that are Pre, element by element, until yield says no; if it does not, one that is Fin. Pin: what it needs of memory. J: what holds of others when so many have been given; Jx: when yield has said no. -/
def Gives (P : Program) (gf : FuncId) (caps : Array Value) (own : List (Nat × Obj)) (Pin : (Nat → Prop) → World → Prop) (Pre Fin : List (List Value) → Prop) : Prop :=
  ∀ (l : Nat) (J : List (List Value) → Ext → Prop) (Jx : Ext → Prop) (E0 : Ext) (w : World), E0.n0 = (fun b => w.heap.size ≤ b) → J [] E0 → E0.J w → Hp own w → (∀ p ∈ own, ¬ E0.D p.1) → Pin E0.D w →
    (∀ pre x E w1, Pre (pre ++ [x]) → J pre E → E.n0 = E0.n0 → E.J w1 → YieldW P l x.toArray w1 fun e w' => ∃ E', E'.n0 = E0.n0 ∧ E'.J w' ∧ Kept E.D w1 w' ∧ (∀ b, E'.D b → E.D b ∨ w1.heap.size ≤ b) ∧ ((e = .returned (.bool true) ∧ J (pre ++ [x]) E') ∨ (e = .returned (.bool false) ∧ Jx E'))) →
    Calls P gf (#[.func (.yield l) #[] #[]] ++ caps) w fun e w' => e = .returned (.tuple #[]) ∧ ∃ E', E'.n0 = E0.n0 ∧ E'.J w' ∧ ((∃ ys, Fin ys ∧ J ys E') ∨ Jx E')

/-- A loop in whose rounds what holds of others may turn. -/
theorem run_loopE {X : Cx} {k : List KI} {st : St} {σ : Type} (S : σ → St) (E : σ → Ext) (I : σ → Prop) (μ : σ → Nat) (x : σ) (hk : isLoop k = true) (hI : I x) (hs : S x = st) (hE : E x = X.E)
    (round : ∀ x, I x → ∀ J : Act → World → Prop, (∀ y, I y → μ y < μ x → ∀ a w, G (X.withE (E y)) (S y) a w → J a w) → Run (X.withE (E x)) (bodyK J k) (S x)) : Run X k st := by
  unfold isLoop at hk
  split at hk
  · rename_i c k'
    intro a w g
    subst hs
    have key : ∀ {σ : Type} (J : σ → Act → World → Prop) (μ : σ → Nat) (round : ∀ x a w, J x a w → c.wpIn X.F X.n X.P (Exit.then (fun a' w' => ∃ x', J x' a' w' ∧ μ x' < μ x) (wpK X k')) a w) {x : σ} {a : Act} {w : World} (_ : J x a w), (Code.loop c).wpIn X.F X.n X.P (wpK X k') a w := by
      intro σ J μ round x a w h
      refine wpIn_loop_g (σ := Nat) (fun m a w => ∃ x, μ x = m ∧ J x a w) id (fun m a w ⟨x, hm, hx⟩ => ?_) ⟨x, rfl, h⟩
      refine wpIn_mono (round x a w hx) fun e a w h => ?_
      cases e with
      | normal =>
        obtain ⟨x', h1, h2⟩ := h
        exact ⟨μ x', ⟨x', rfl, h1⟩, by rw [← hm]; exact h2⟩
      | _ => exact h
    refine key (fun y a w => G (X.withE (E y)) (S y) a w ∧ I y) μ (fun y a w ⟨g, hy⟩ => ?_) (x := x) ⟨by rw [hE]; exact g, hI⟩
    have h1 := round y hy (fun a w => ∃ x', (G (X.withE (E x')) (S x') a w ∧ I x') ∧ μ x' < μ y) (fun z hz hm a w g => ⟨z, ⟨g, hz⟩, hm⟩) a w g
    have h2 : c.wpIn X.F X.n X.P (wpK (X.withE (E y)) (.lp (fun a w => ∃ x', (G (X.withE (E x')) (S x') a w ∧ I x') ∧ μ x' < μ y) :: k')) a w := h1
    rw [wpK_E] at h2
    refine wpIn_mono h2 fun e a w h => ?_
    cases e <;> exact h
  · cases hk
end Go.Proofs.Ytfjfkaaflghaiaa

namespace Go.Proofs.Ytfjfkaaflghaiaa
open Go.RowKit

theorem def_ne {w : World} {hp : List (Nat × Obj)} (h : ∀ p ∈ hp, w.heap[p.1]? = some p.2) (nd : ∀ p ∈ hp, isDef p.2 = false) {b : Nat} {o : Obj} (hb : w.heap[b]? = some o) (hd : isDef o = true) {p : Nat × Obj} (hp' : p ∈ hp) : p.1 ≠ b := by
  intro e
  have h1 := h p hp'
  rw [e, hb] at h1
  injection h1 with h1
  have h2 := nd p hp'
  rw [← h1, hd] at h2
  cases h2
theorem putObj_size (w : World) (l : Nat) (o : Obj) : (w.putObj l o).heap.size = w.heap.size := by simp [World.putObj]
theorem Kept.putObj {M : Nat → Prop} {B w : World} (h : Kept M B w) {l : Nat} (o : Obj) (hl : l < B.heap.size → M l) : Kept M B (w.putObj l o) :=
  ⟨h.os, h.tape, h.output, by rw [putObj_size]; exact h.size, fun k hk hn => by
    have hne : k ≠ l := fun e => by subst e; exact hn (hl hk)
    exact (World.putObj_heap_other hne).trans (h.block k hk hn)⟩

/-- What holds of the function that ranges while the iterator goes on. -/
structure CJ (X : Cx) (W : Nat → Prop) (hp : List (Nat × Obj)) (e : Ext) (l : Nat) (o : Obj) (ml : List Nat) (n : Nat) (w : World) : Prop where
  hh : ∀ p ∈ hp, w.heap[p.1]? = some p.2 ∧ (p.1 < X.B.heap.size → X.M p.1)
  ne : hp.Pairwise fun p q => p.1 ≠ q.1
  nd : ∀ p ∈ hp, isDef p.2 = false
  kp : Kept X.M X.B w
  ex : GE e hp w
  rc : w.heap[l]? = some o
  ms : ∀ D ∈ ml, w.heap[D]? = some (.deferred (some []))
  mx : ∀ D ∈ ml, X.lo ≤ D ∧ e.n0 D ∧ ¬ e.D D ∧ D < n
  lx : l < n ∧ e.n0 l ∧ ¬ e.D l ∧ X.B.heap.size ≤ l
  n0 : n ≤ w.heap.size
  nx : ∀ b, n ≤ b → e.n0 b
  wx : ∀ b, W b → ((e.n0 b ∧ ¬ e.D b) ∧ (b < X.B.heap.size → X.M b) ∧ b ≠ l ∧ b ∉ ml ∧ b < n) ∧ ∀ p ∈ hp, p.1 ≠ b
def RM (hp : List (Nat × Obj)) (e : Ext) (l : Nat) (b : Nat) : Prop := (∃ o, (b, o) ∈ hp) ∨ b = l ∨ e.D b
def mkE (X : Cx) (W : Nat → Prop) (hp : List (Nat × Obj)) (e : Ext) (l : Nat) (o : Obj) (ms : List Nat) (n0 : Nat) : Ext where
  D := RM hp e l
  n0 := fun b => n0 ≤ b ∨ W b
  J := CJ X W hp e l o ms n0
  stab := fun w w' h k => by
    have hlt : ∀ {b : Nat} {o : Obj}, w.heap[b]? = some o → b < w.heap.size := fun h => (Array.getElem?_eq_some_iff.1 h).1
    refine ⟨fun p hp => ⟨(k.block _ (hlt (h.hh p hp).1) fun hh => hh.2 (.inl ⟨p.2, hp⟩)).trans (h.hh p hp).1, (h.hh p hp).2⟩, h.ne, h.nd, h.kp.trans k fun b hb hh => ?_, ⟨e.stab _ _ h.ex.J (k.mono fun b hh => ⟨?_, fun hD => hh.2 (.inr (.inr hD))⟩), h.ex.hp, fun b hb => h.ex.n0 b (Nat.le_trans k.size hb)⟩, (k.block _ (hlt h.rc) fun hh => hh.2 (.inr (.inl rfl))).trans h.rc, fun D hD => (k.block _ (hlt (h.ms D hD)) fun hh => ?_).trans (h.ms D hD), h.mx, h.lx, Nat.le_trans h.n0 k.size, h.nx, h.wx⟩
    · rcases hh.1 with hn | hw
      · have := h.lx
        omega
      · exact (h.wx b hw).1.2.1 hb
    · rcases hh.1 with hn | hw
      · exact h.nx b hn
      · exact (h.wx b hw).1.1.1
    · rcases hh.1 with hn | hw
      · have := (h.mx D hD).2.2.2
        omega
      · exact (h.wx D hw).1.2.2.2.1 hD
  lt := fun w b h hD => by
    rcases hD with ⟨o, ho⟩ | rfl | hD
    · exact (Array.getElem?_eq_some_iff.1 (h.hh _ ho).1).1
    · exact (Array.getElem?_eq_some_iff.1 h.rc).1
    · exact e.lt _ _ h.ex.J hD
/-- What holds of others in a round. -/
def rE (e : Ext) (l : Nat) (o : Obj) (ms : List Nat) : Ext where
  D := fun b => b = l ∨ b ∈ ms ∨ e.D b
  n0 := e.n0
  J := fun w => e.J w ∧ w.heap[l]? = some o ∧ ∀ D ∈ ms, w.heap[D]? = some (.deferred (some []))
  stab := fun w w' h k => by
    have hlt : ∀ {b : Nat} {o : Obj}, w.heap[b]? = some o → b < w.heap.size := fun h => (Array.getElem?_eq_some_iff.1 h).1
    exact ⟨e.stab _ _ h.1 (k.mono fun b hh => ⟨hh.1, fun hD => hh.2 (.inr (.inr hD))⟩), (k.block _ (hlt h.2.1) fun hh => hh.2 (.inl rfl)).trans h.2.1, fun D hD => (k.block _ (hlt (h.2.2 D hD)) fun hh => hh.2 (.inr (.inl hD))).trans (h.2.2 D hD)⟩
  lt := fun w b h hD => by
    rcases hD with rfl | hD | hD
    · exact (Array.getElem?_eq_some_iff.1 h.2.1).1
    · exact (Array.getElem?_eq_some_iff.1 (h.2.2 b hD)).1
    · exact e.lt _ _ h.1 hD
def roundQ (Jn : Act → World → Prop) (Je : Code → Act → World → Prop) : Exit → Act → World → Prop
  | .normal => Jn
  | .ret => Je .ret
  | .exit id => Je (.exit id)
  | _ => fun _ _ => False
/-- In what a round is gone through. -/
def XR (X : Cx) (l : Nat) (ms : List Nat) (o : Obj) (w1 : World) (hp : List (Nat × Obj)) (e : Ext) (Q : Exit → Act → World → Prop) : Cx := { P := X.P, lo := 0, rd := some l, n := 0, M := RM hp e l, B := w1, N := X.N, Q := Q, E := rE e l o ms }
/-- The round's first state. -/
def parSt (ps : List Tmp) (x : List Value) (st : St) : St := (ps.zip x).foldl (fun s p => s.put (some p.1) p.2) st
theorem par_ok {X : Cx} : ∀ {l : List (Tmp × Value)} {st : St} {a : Act} {w : World}, G X st a w → (∀ p ∈ l, p.1 < X.N) → G X (l.foldl (fun s p => s.put (some p.1) p.2) st) (l.foldl (fun a p => a.put (some p.1) p.2) a) w
  | [], st, a, w, g, _ => g
  | p :: l, st, a, w, g, h => par_ok (l := l) (g.put (by simpa [dstOk] using h p List.mem_cons_self) p.2) fun q hq => h q (List.mem_cons_of_mem _ hq)
theorem fold_put (df : List Deferred) : ∀ (l : List (Tmp × Value)) (t : Array Value), (l.foldl (fun (a : Act) p => a.put (some p.1) p.2) { tmps := t, defers := df }) = { tmps := l.foldl (fun t p => t.setIfInBounds p.1 p.2) t, defers := df }
  | [], _ => rfl
  | _ :: l, _ => fold_put df l _

def headRange (k : List KI) (st : St) : Option (Value × List Tmp) :=
  match k with
  | .code (.rangeFunc g ps _ _) :: _ => bif (match g with | .tmp t => (look st.sl t).isSome | _ => true) then some (st.ev g, ps.toList) else none
  | _ => none
def rangeA (k : List KI) : Code := match k with
  | .code (.rangeFunc _ _ a _) :: _ => a
  | _ => .skip
def rangeB (k : List KI) : Code := match k with
  | .code (.rangeFunc _ _ _ b) :: _ => b
  | _ => .skip

theorem putObj_block {w : World} {l : Nat} {o : Obj} {b : Nat} (h : b ≠ l) : (w.putObj l o).heap[b]? = w.heap[b]? := World.putObj_heap_other h
/-- A round begins: its record turns. -/
theorem g_rec {X : Cx} {l : Nat} {ms : List Nat} {r b : Loop} {w1 : World} {hp : List (Nat × Obj)} {e : Ext} {Q Q' : Exit → Act → World → Prop} {st : St} {a : Act} {w : World} (g : G (XR X l ms (.loop r) w1 hp e Q) st a w) (hl : e.n0 l ∧ ¬ e.D l) : G (XR X l ms (.loop b) w1 hp e Q') st a (w.putObj l (.loop b)) := by
  have hrc : w.heap[l]? = some (.loop r) := g.ex.J.2.1
  have hlt : l < w.heap.size := (Array.getElem?_eq_some_iff.1 hrc).1
  have hne : ∀ p ∈ st.hp, p.1 ≠ l := fun p hp e => (g.ex.hp p hp).2 (.inl e)
  have hms : ∀ D ∈ ms, D ≠ l := fun D hD e => by
    have := g.ex.J.2.2 D hD
    rw [e, hrc] at this
    cases this
  refine ⟨?_, g.sz, g.sl, fun p hp => ⟨(putObj_block (hne p hp)).trans (g.hp p hp).1, (g.hp p hp).2⟩, g.ne, g.nd, g.kp.putObj _ fun _ => .inr (.inl rfl), ⟨⟨e.stab _ _ g.ex.J.1 ((Kept.refl _ w).putObj _ fun _ => hl), World.putObj_heap_same hlt, fun D hD => (putObj_block (hms D hD)).trans (g.ex.J.2.2 D hD)⟩, g.ex.hp, by rw [putObj_size]; exact g.ex.n0⟩⟩
  obtain ⟨Ds, h1, h2, h3⟩ := g.df
  refine ⟨Ds, h1, h2, fun D hD => ?_⟩
  obtain ⟨h4, h5, h6, h7⟩ := h3 D hD
  exact ⟨(putObj_block fun e => h7 (.inl e)).trans h4, h5, h6, h7⟩
/-- A round ends. -/
theorem round_end {X : Cx} {W : Nat → Prop} {hp hp' : List (Nat × Obj)} {e e' : Ext} {l : Nat} {ms : List Nat} {n0 : Nat} {w1 : World} {r0 rb o' : Loop} (c1 : CJ X W hp e l (.loop r0) ms n0 w1) (hEM : ∀ b, b < X.B.heap.size → e.D b → X.M b) {sl' : List (Nat × Value)} {a : Act} {w : World} {Q : Exit → Act → World → Prop} (hn : e'.n0 = e.n0) (hsub : ∀ b, e'.D b → e.D b ∨ w1.heap.size ≤ b)
    (g : G ((XR X l ms (.loop rb) w1 hp e Q).withE (rE e' l (.loop rb) ms)) ⟨sl', hp'⟩ a w) : CJ X W hp' e' l (.loop o') ms n0 (w.putObj l (.loop o')) ∧ Kept (RM hp e l) w1 (w.putObj l (.loop o')) ∧ ∀ b, RM hp' e' l b → RM hp e l b ∨ w1.heap.size ≤ b := by
  have hrc : w.heap[l]? = some (.loop rb) := g.ex.J.2.1
  have hlt : l < w.heap.size := (Array.getElem?_eq_some_iff.1 hrc).1
  have hne : ∀ p ∈ hp', p.1 ≠ l := fun p hp e => (g.ex.hp p hp).2 (.inl e)
  have hms : ∀ D ∈ ms, D ≠ l := fun D hD e => by
    have := g.ex.J.2.2 D hD
    rw [e, hrc] at this
    cases this
  have hRM : ∀ b, b < X.B.heap.size → RM hp e l b → X.M b := fun b hb hm => by
    rcases hm with ⟨o, ho⟩ | rfl | hD
    · exact (c1.hh _ ho).2 hb
    · have := c1.lx.2.2.2
      omega
    · exact hEM b hb hD
  have kw : Kept (RM hp e l) w1 (w.putObj l (.loop o')) := Kept.putObj (M := RM hp e l) g.kp _ fun _ => .inr (.inl rfl)
  have hle : e'.n0 l ∧ ¬ e'.D l := ⟨by rw [hn]; exact c1.lx.2.1, fun hD => by
    rcases hsub l hD with h | h
    · exact c1.lx.2.2.1 h
    · have := c1.lx.1
      have := c1.n0
      omega⟩
  refine ⟨⟨fun p hpp => ⟨(putObj_block (hne p hpp)).trans (g.hp p hpp).1, fun hb => hRM _ hb ((g.hp p hpp).2 (Nat.lt_of_lt_of_le hb c1.kp.size))⟩, g.ne, g.nd, c1.kp.trans kw hRM, ⟨e'.stab _ _ g.ex.J.1 ((Kept.refl _ w).putObj _ fun _ => hle), fun p hpp => ⟨(g.ex.hp p hpp).1, fun hD => (g.ex.hp p hpp).2 (.inr (.inr hD))⟩, by rw [putObj_size]; exact g.ex.n0⟩, World.putObj_heap_same hlt, fun D hD => (putObj_block (hms D hD)).trans (g.ex.J.2.2 D hD), fun D hD => ?_, ⟨c1.lx.1, hle.1, hle.2, c1.lx.2.2.2⟩, ?_, fun b hb => by rw [hn]; exact c1.nx b hb, fun b hw => ?_⟩, kw, fun b hb => ?_⟩
  · obtain ⟨m1, m2, m3, m4⟩ := c1.mx D hD
    refine ⟨m1, by rw [hn]; exact m2, fun hE => ?_, m4⟩
    rcases hsub D hE with h | h
    · exact m3 h
    · have := c1.n0
      omega
  · have h1 := c1.n0
    have h2 := g.kp.size
    rw [putObj_size]
    exact Nat.le_trans h1 h2
  · obtain ⟨⟨⟨w1_, w2_⟩, w3_, w4_, w5_, w6_⟩, w7_⟩ := c1.wx b hw
    have hbl : b < w1.heap.size := Nat.lt_of_lt_of_le w6_ c1.n0
    refine ⟨⟨⟨by rw [hn]; exact w1_, fun hD => ?_⟩, w3_, w4_, w5_, w6_⟩, fun p hpp e => ?_⟩
    · rcases hsub b hD with h | h
      · exact w2_ h
      · omega
    · subst e
      rcases (g.hp p hpp).2 hbl with ⟨o, ho⟩ | h | h
      · exact w7_ _ ho rfl
      · exact w4_ h
      · exact w2_ h
  · rcases hb with ⟨o, ho⟩ | rfl | hD
    · by_cases hb : b < w1.heap.size
      · exact .inl ((g.hp _ ho).2 hb)
      · exact .inr (by omega)
    · exact .inl (.inr (.inl rfl))
    · exact (hsub b hD).imp_left fun h => .inr (.inr h)
/-- The loop has ended. -/
theorem range_end {X : Cx} {W : Nat → Prop} {wr : List (Nat × Obj)} {st : St} {a : Act} {w w3 : World} (g : G X st a w) {hp : List (Nat × Obj)} {e : Ext} {l : Nat} {ms Ds : List Nat} {n0 : Nat} {r o' : Loop} (c : CJ X W hp e l (.loop r) ms n0 w3) (hW : ∀ p ∈ wr, W p.1) (hwn : wr.Pairwise fun p q => p.1 ≠ q.1) (hwd : ∀ p ∈ wr, isDef p.2 = false) (hwr : ∀ p ∈ wr, w3.heap[p.1]? = some p.2) {Dm : Nat} (hms : ms = Dm :: Ds) (hnd : ms.Nodup) (ha : a.defers = Ds.map mark) : G (X.withE e) ⟨st.sl, wr ++ hp⟩ { a with defers := [mark Dm] ++ a.defers } (w3.putObj l (.loop o')) := by
  have hne : ∀ p ∈ hp, p.1 ≠ l := fun p hpp => def_ne (fun p hp => (c.hh p hp).1) c.nd c.rc rfl hpp
  have hml : ∀ D ∈ ms, D ≠ l := fun D hD e => by
    have := c.ms D hD
    rw [e, c.rc] at this
    cases this
  have hlt : l < w3.heap.size := (Array.getElem?_eq_some_iff.1 c.rc).1
  refine ⟨⟨ms, by rw [hms, ha]; rfl, hnd, fun D hD => ⟨(putObj_block (hml D hD)).trans (c.ms D hD), (c.mx D hD).1, (c.mx D hD).2.1, (c.mx D hD).2.2.1⟩⟩, g.sz, g.sl, fun p hpp => ?_, List.pairwise_append.2 ⟨hwn, c.ne, fun p hp q hq e => (c.wx p.1 (hW p hp)).2 q hq e.symm⟩, fun p hpp => ?_, c.kp.putObj _ fun h => by have := c.lx.2.2.2; omega, ⟨e.stab _ _ c.ex.J ((Kept.refl _ w3).putObj _ fun _ => ⟨c.lx.2.1, c.lx.2.2.1⟩), fun p hpp => ?_, by rw [putObj_size]; exact c.ex.n0⟩⟩
  · rcases List.mem_append.1 hpp with hpp | hpp
    · exact ⟨(putObj_block (c.wx p.1 (hW p hpp)).1.2.2.1).trans (hwr p hpp), (c.wx p.1 (hW p hpp)).1.2.1⟩
    · exact ⟨(putObj_block (hne p hpp)).trans (c.hh p hpp).1, (c.hh p hpp).2⟩
  · rcases List.mem_append.1 hpp with hpp | hpp
    · exact hwd p hpp
    · exact c.nd p hpp
  · rcases List.mem_append.1 hpp with hpp | hpp
    · exact (c.wx p.1 (hW p hpp)).1.1
    · exact c.ex.hp p hpp
theorem g_Q {X : Cx} {st : St} {a : Act} {w : World} {Q : Exit → Act → World → Prop} (g : G X st a w) : G { X with Q := Q } st a w := ⟨g.df, g.sz, g.sl, g.hp, g.ne, g.nd, g.kp, g.ex⟩

def inNames (wr : List (Nat × Obj)) (b : Nat) : Prop := b ∈ wr.map (·.1)
/-- What an iterator gives that also writes to these blocks of others (W): Wi: what they are at first, Wo: in the end. -/
def GivesW (P : Program) (gf : FuncId) (caps : Array Value) (own : List (Nat × Obj)) (W : Nat → Prop) (Wi Wo : World → Prop) (Pin : (Nat → Prop) → World → Prop) (Pre Fin : List (List Value) → Prop) : Prop :=
  ∀ (l : Nat) (J : List (List Value) → Ext → Prop) (Jx : Ext → Prop) (E0 : Ext) (w : World), E0.n0 = (fun b => w.heap.size ≤ b ∨ W b) → (∀ b, W b → ¬ E0.D b) → Wi w → J [] E0 → E0.J w → Hp own w → (∀ p ∈ own, ¬ E0.D p.1) → Pin E0.D w →
    (∀ pre x E w1, Pre (pre ++ [x]) → J pre E → E.n0 = E0.n0 → E.J w1 → YieldW P l x.toArray w1 fun e w' => ∃ E', E'.n0 = E0.n0 ∧ E'.J w' ∧ Kept E.D w1 w' ∧ (∀ b, E'.D b → E.D b ∨ w1.heap.size ≤ b) ∧ ((e = .returned (.bool true) ∧ J (pre ++ [x]) E') ∨ (e = .returned (.bool false) ∧ Jx E'))) →
    Calls P gf (#[.func (.yield l) #[] #[]] ++ caps) w fun e w' => e = .returned (.tuple #[]) ∧ Wo w' ∧ ∃ E', E'.n0 = E0.n0 ∧ E'.J w' ∧ ((∃ ys, Fin ys ∧ J ys E') ∨ Jx E')
theorem Gives.w {P : Program} {gf : FuncId} {caps : Array Value} {own : List (Nat × Obj)} {Pin : (Nat → Prop) → World → Prop} {Pre Fin : List (List Value) → Prop} (h : Gives P gf caps own Pin Pre Fin) : GivesW P gf caps own (fun _ => False) (fun _ => True) (fun _ => True) Pin Pre Fin :=
  fun l J Jx E0 w hn _ _ h1 h2 h3 h4 h5 h6 => (h l J Jx E0 w (by rw [hn]; funext b; exact (by simp)) h1 h2 h3 h4 h5 h6).mono fun e w' ⟨a, b⟩ => ⟨a, trivial, b⟩
/-- A range over a function that may write to blocks that this one knows. -/
theorem run_rangeW {X : Cx} {k : List KI} {st : St} {σ τ υ : Type} (wr : List (Nat × Obj)) (Wr : υ → List (Nat × Obj)) (hWn : ∀ x, (Wr x).map (·.1) = wr.map (·.1)) (hWd : ∀ x, ∀ p ∈ Wr x, isDef p.2 = false) (gf : FuncId) (caps : Array Value) (ps : List Tmp) (own rest : List (Nat × Obj)) (Pin : (Nat → Prop) → World → Prop) (Pre Fin : List (List Value) → Prop) (h : headRange k st = some (.func (.func gf) #[] caps, ps)) (hrd : X.rd = none) (hX : X.lo = X.B.heap.size)
    (hgo : ∀ l, qrun X.P (invoke (.fn (.func gf) caps) #[.func (.yield l) #[] #[]]) = some (.enter gf (#[.func (.yield l) #[] #[]] ++ caps))) (hhp : st.hp = wr ++ (own ++ rest)) (hps : ps.all (fun p => Nat.blt p X.N) = true) (hlen : ∀ pre x, Pre (pre ++ [x]) → x.length = ps.length) (hg : GivesW X.P gf caps own (inNames wr) (Hp wr) (fun w => ∃ x, Hp (Wr x) w) Pin Pre Fin) (hPin : ∀ D w, Kept X.M X.B w → (∀ b, b < X.B.heap.size → D b → X.M b) → Pin D w)
    (S : σ → List (Nat × Obj)) (E : σ → Ext) (I : List (List Value) → σ → Prop) (Sx : τ → List (Nat × Obj)) (Ex : τ → Ext) (Ix : Code → τ → Prop) (x0 : σ) (h0 : I [] x0) (hs0 : S x0 = rest) (hE0 : E x0 = X.E)
    (hDM : ∀ pre s, I pre s → (E s).n0 = X.E.n0 ∧ ∀ b, b < X.B.heap.size → (E s).D b → X.M b) (hDx : ∀ c y, Ix c y → (Ex y).n0 = X.E.n0)
    (round : ∀ pre x s, Pre (pre ++ [x]) → I pre s → ∀ (l : Nat) (ms : List Nat) (r b : Obj) (w1 : World) (Jb Jn : Act → World → Prop) (Je : Code → Act → World → Prop), (∀ w, Kept (RM (S s) (E s) l) w1 w → Kept X.M X.B w) → ((¬ (E s).D l ∧ ∀ D ∈ ms, ¬ (E s).D D) ∧ X.B.heap.size ≤ w1.heap.size) →
      (∀ st1, Run (XR X l ms b w1 (S s) (E s) (roundQ Jn Je)) [.code (rangeB k)] st1 → ∀ a w, G (XR X l ms r w1 (S s) (E s) (fun _ _ _ => False)) st1 a w → Jb a w) →
      (∀ s' sl, I (pre ++ [x]) s' → (∀ b, (E s').D b → (E s).D b ∨ w1.heap.size ≤ b) → ∀ a w, G ((XR X l ms b w1 (S s) (E s) (roundQ Jn Je)).withE (rE (E s') l b ms)) ⟨sl, S s'⟩ a w → Jn a w) →
      (∀ c y sl, Ix c y → (c = .ret ∨ ∃ id, c = .exit id) → (∀ b, (Ex y).D b → (E s).D b ∨ w1.heap.size ≤ b) → ∀ a w, G ((XR X l ms b w1 (S s) (E s) (roundQ Jn Je)).withE (rE (Ex y) l b ms)) ⟨sl, Sx y⟩ a w → Je c a w) →
      Run (XR X l ms r w1 (S s) (E s) (fun _ _ _ => False)) [.code (rangeA k), .lp Jb] (parSt ps x ⟨st.sl, S s⟩))
    (hdone : ∀ x ys s, Fin ys → I ys s → Run (X.withE (E s)) k.tail ⟨st.sl, Wr x ++ S s⟩) (hstop : ∀ x c y, Ix c y → Run (X.withE (Ex y)) (.code c :: k.tail) ⟨st.sl, Wr x ++ Sx y⟩) : Run X k st := by
  unfold headRange at h
  split at h
  · rename_i g psa assign body k'
    cases hc : (match g with | .tmp t => (look st.sl t).isSome | _ => true) with
    | false => rw [hc] at h; cases h
    | true =>
      rw [hc] at h
      injection h with h
      injection h with h1 h2
      subst h2
      intro a w gg
      have hev := (gg.eval hc).trans h1
      refine wpIn_rangeFunc fun fn hfn => ?_
      obtain ⟨Ds, d1, d2, d3⟩ := gg.df
      have hFr : X.F.round = none := hrd
      rw [hFr]
      obtain ⟨rec, hrec⟩ : ∃ rec : LoopState → Option Code → Loop, rec = fun s pe => { state := s, pending := pe, fn, tmps := a.tmps, params := psa, assign, body, defers := w.heap.size } := ⟨_, rfl⟩
      obtain ⟨W1, hW1⟩ : ∃ W1, (w.alloc (.deferred (some []))).alloc (.loop (rec .ready none)) = W1 := ⟨_, rfl⟩
      have k1 : Keeps w W1 := by rw [← hW1]; exact ((Keeps.refl w).alloc _).alloc _
      have hL1 : W1.heap[w.heap.size + 1]? = some (.loop (rec .ready none)) := by
        rw [← hW1]; have := World.alloc_heap_new (w.alloc (.deferred (some []))) (.loop (rec .ready none)); rwa [World.size_alloc] at this
      have hK1 : W1.heap[w.heap.size]? = some (.deferred (some [])) := by
        rw [← hW1]; exact (Below.heap_alloc _ _ _ (by simp)).trans (World.alloc_heap_new w _)
      have hsz : W1.heap.size = w.heap.size + 2 := by rw [← hW1]; simp
      have hB := gg.kp.size
      obtain ⟨l, hl⟩ : ∃ l, l = w.heap.size + 1 := ⟨_, rfl⟩
      obtain ⟨ms, hms⟩ : ∃ ms, ms = w.heap.size :: Ds := ⟨_, rfl⟩
      obtain ⟨n0, hn0⟩ : ∃ n0, n0 = W1.heap.size := ⟨_, rfl⟩
      have g1 := gg.world k1
      have hsub : ∀ p ∈ rest, p ∈ st.hp := fun p hp => by rw [hhp]; exact List.mem_append_right _ (List.mem_append_right _ hp)
      have hsuw : ∀ p ∈ wr, p ∈ st.hp := fun p hp => by rw [hhp]; exact List.mem_append_left _ hp
      have hsuo : ∀ p ∈ own, p ∈ st.hp := fun p hp => by rw [hhp]; exact List.mem_append_right _ (List.mem_append_left _ hp)
      have hpw : wr.Pairwise (fun p q => p.1 ≠ q.1) ∧ own.Pairwise (fun p q => p.1 ≠ q.1) ∧ rest.Pairwise (fun p q => p.1 ≠ q.1) ∧ (∀ p ∈ own, ∀ q ∈ rest, p.1 ≠ q.1) ∧ ∀ p ∈ wr, ∀ q ∈ own ++ rest, p.1 ≠ q.1 := by
        have := gg.ne
        rw [hhp, List.pairwise_append, List.pairwise_append] at this
        exact ⟨this.1, this.2.1.1, this.2.1.2.1, this.2.1.2.2, this.2.2⟩
      have hEl : ¬ X.E.D (w.heap.size + 1) := fun h => by have := X.E.lt _ _ gg.ex.J h; omega
      have hEm : ¬ X.E.D w.heap.size := fun h => by have := X.E.lt _ _ gg.ex.J h; omega
      have c0 : CJ X (inNames wr) rest X.E l (.loop (rec .ready none)) ms n0 W1 := by
        refine ⟨fun p hp => g1.hp p (hsub p hp), hpw.2.2.1, fun p hp => g1.nd p (hsub p hp), g1.kp, ⟨g1.ex.J, fun p hp => g1.ex.hp p (hsub p hp), g1.ex.n0⟩, by rw [hl]; exact hL1, fun D hD => ?_, fun D hD => ?_, ?_, Nat.le_of_eq hn0, fun b hb => g1.ex.n0 b (by omega), fun b hb => ?_⟩
        · rw [hms] at hD
          rcases List.mem_cons.1 hD with rfl | hD
          · exact hK1
          · exact (k1.heap (Array.getElem?_eq_some_iff.1 (d3 D hD).1).1).trans (d3 D hD).1
        · rw [hms] at hD
          rcases List.mem_cons.1 hD with rfl | hD
          · exact ⟨by omega, gg.ex.n0 _ (Nat.le_refl _), hEm, by omega⟩
          · obtain ⟨e1, e2, e3, e4⟩ := d3 D hD
            have := (Array.getElem?_eq_some_iff.1 e1).1
            exact ⟨e2, e3, e4, by omega⟩
        · exact ⟨by omega, gg.ex.n0 _ (by omega), by rw [hl]; exact hEl, by omega⟩
        · obtain ⟨p, hp, rfl⟩ := List.mem_map.1 hb
          have hpm := hsuw p hp
          refine ⟨⟨g1.ex.hp p hpm, (g1.hp p hpm).2, ?_, fun hm => ?_, ?_⟩, fun q hq e => hpw.2.2.2.2 p hp q (List.mem_append_right _ hq) e.symm⟩
          · exact def_ne (fun p hp => (g1.hp p hp).1) g1.nd (by rw [hl]; exact hL1) rfl hpm
          · rw [hms] at hm
            rcases List.mem_cons.1 hm with hm | hm
            · exact def_ne (fun p hp => (g1.hp p hp).1) g1.nd hK1 rfl hpm hm
            · exact def_ne (fun p hp => (gg.hp p hp).1) gg.nd (d3 _ hm).1 rfl hpm rfl
          · rw [hn0]
            exact (Array.getElem?_eq_some_iff.1 (g1.hp p hpm).1).1
      have hnot : ∀ {hp : List (Nat × Obj)} {e : Ext} {o : Obj} {w1 : World}, CJ X (inNames wr) hp e l o ms n0 w1 → isDef o = true → (∀ p ∈ hp, p.1 ≠ l) ∧ ∀ p ∈ hp, p.1 ∉ ms := fun {hp e o w1} c ho => ⟨fun p hp => def_ne (fun p hp => (c.hh p hp).1) c.nd c.rc ho hp, fun p hp hm => def_ne (fun p hp => (c.hh p hp).1) c.nd (c.ms _ hm) rfl hp rfl⟩
      obtain ⟨JJ, hJJ⟩ : ∃ JJ : List (List Value) → Ext → Prop, JJ = fun pre e => ∃ s, I pre s ∧ e = mkE X (inNames wr) (S s) (E s) l (.loop (rec .ready none)) ms n0 := ⟨_, rfl⟩
      obtain ⟨Jx, hJx⟩ : ∃ Jx : Ext → Prop, Jx = fun e => ∃ c y, Ix c y ∧ e = mkE X (inNames wr) (Sx y) (Ex y) l (.loop (rec .done (some c))) ms n0 := ⟨_, rfl⟩
      have hcall := hg l JJ Jx (mkE X (inNames wr) rest X.E l (.loop (rec .ready none)) ms n0) W1 (by rw [← hn0]; rfl) (fun b hb hD => ?_) (fun p hp => (g1.hp p (hsuw p hp)).1) (by rw [hJJ]; exact ⟨x0, h0, by rw [hs0, hE0]⟩) c0 (fun p hp => (g1.hp p (hsuo p hp)).1) (fun p hp hD => ?_) (hPin _ _ g1.kp fun b hb hD => ?_) ?_
      rotate_left
      · rcases hD with ⟨o, ho⟩ | hD | hD
        · exact (c0.wx b hb).2 _ ho rfl
        · exact (c0.wx b hb).1.2.2.1 hD
        · exact (c0.wx b hb).1.1.2 hD
      · -- the iterator's own blocks are not among those of others
        have hpm : p ∈ st.hp := hsuo p hp
        rcases hD with ⟨o, ho⟩ | hD | hD
        · exact hpw.2.2.2.1 p hp _ ho rfl
        · exact def_ne (fun p hp => (g1.hp p hp).1) g1.nd (by rw [hl]; exact hL1) rfl hpm hD
        · exact (gg.ex.hp p hpm).2 hD
      · rcases hD with ⟨o, ho⟩ | hD | hD
        · exact (c0.hh _ ho).2 hb
        · exact absurd hb (by rw [hD]; exact Nat.not_lt.2 c0.lx.2.2.2)
        · exact (hDM [] x0 h0).2 b hb (by rw [hE0]; exact hD)
      · -- one round
        rintro pre x e w1 hpre hj _ hJ
        rw [hJJ] at hj
        obtain ⟨s, hI, rfl⟩ := hj
        have c1 : CJ X (inNames wr) (S s) (E s) l (.loop (rec .ready none)) ms n0 w1 := hJ
        have hxl := hlen pre x hpre
        obtain ⟨hEn, hEM⟩ := hDM pre s hI
        have hy := Go.run_yield (P := X.P) (args := x.toArray) (r := rec .ready none) c1.rc (by rw [hrec]; simpa using hxl)
        have hn := hnot c1 rfl
        have hkk : ∀ w, Kept (RM (S s) (E s) l) w1 w → Kept X.M X.B w := fun w hw => c1.kp.trans hw fun b hb hm => by
          rcases hm with ⟨o, ho⟩ | rfl | hD
          · exact (c1.hh _ ho).2 hb
          · have := c1.lx.2.2.2
            omega
          · exact hEM b hb hD
        obtain ⟨Jn, hJn⟩ : ∃ Jn : Act → World → Prop, Jn = fun a w => ∃ s' sl', I (pre ++ [x]) s' ∧ (∀ b, (E s').D b → (E s).D b ∨ w1.heap.size ≤ b) ∧ G ((XR X l ms (.loop (rec .busy none)) w1 (S s) (E s) (fun _ _ _ => False)).withE (rE (E s') l (.loop (rec .busy none)) ms)) ⟨sl', S s'⟩ a w := ⟨_, rfl⟩
        obtain ⟨Je, hJe⟩ : ∃ Je : Code → Act → World → Prop, Je = fun c a w => ∃ y sl', Ix c y ∧ (∀ b, (Ex y).D b → (E s).D b ∨ w1.heap.size ≤ b) ∧ G ((XR X l ms (.loop (rec .busy none)) w1 (S s) (E s) (fun _ _ _ => False)).withE (rE (Ex y) l (.loop (rec .busy none)) ms)) ⟨sl', Sx y⟩ a w := ⟨_, rfl⟩
        have hfin : ∀ (c : Option Code) (a3 : Act) (w3 : World), (match c with | none => Jn a3 w3 | some c => Je c a3 w3) → ∃ v w', (Instr.endRound l c).run X.P w3 = .ok v w' ∧ ∃ E', E'.n0 = (fun b => n0 ≤ b ∨ inNames wr b) ∧ E'.J w' ∧ Kept (RM (S s) (E s) l) w1 w' ∧ (∀ b, E'.D b → RM (S s) (E s) l b ∨ w1.heap.size ≤ b) ∧ ((Ending.returned v = .returned (.bool true) ∧ JJ (pre ++ [x]) E') ∨ (Ending.returned v = .returned (.bool false) ∧ Jx E')) := by
          intro c a3 w3 hc
          cases c with
          | none =>
            rw [hJn] at hc
            obtain ⟨s', sl', i1, i2, i3⟩ := hc
            have hrc : w3.heap[l]? = some (.loop (rec .busy none)) := i3.ex.J.2.1
            obtain ⟨q1, q2, q3⟩ := round_end (o' := rec .ready none) c1 hEM ((hDM _ s' i1).1.trans hEn.symm) i2 i3
            refine ⟨_, _, run_endRound none hrc, mkE X (inNames wr) (S s') (E s') l (.loop (rec .ready none)) ms n0, rfl, ?_, ?_, q3, .inl ⟨rfl, by rw [hJJ]; exact ⟨s', i1, rfl⟩⟩⟩
            · have e1 : ({ rec .busy none with state := if (none : Option Code).isNone then LoopState.ready else LoopState.done, pending := none } : Loop) = rec .ready none := by rw [hrec]; rfl
              rw [e1]
              exact q1
            · have e1 : ({ rec .busy none with state := if (none : Option Code).isNone then LoopState.ready else LoopState.done, pending := none } : Loop) = rec .ready none := by rw [hrec]; rfl
              rw [e1]
              exact q2
          | some c =>
            rw [hJe] at hc
            obtain ⟨y, sl', i1, i2, i3⟩ := hc
            have hrc : w3.heap[l]? = some (.loop (rec .busy none)) := i3.ex.J.2.1
            obtain ⟨q1, q2, q3⟩ := round_end (o' := rec .done (some c)) c1 hEM ((hDx c y i1).trans hEn.symm) i2 i3
            have e1 : ({ rec .busy none with state := if (some c).isNone then LoopState.ready else LoopState.done, pending := some c } : Loop) = rec .done (some c) := by rw [hrec]; rfl
            refine ⟨_, _, run_endRound (some c) hrc, mkE X (inNames wr) (Sx y) (Ex y) l (.loop (rec .done (some c))) ms n0, rfl, ?_, ?_, q3, .inr ⟨rfl, by rw [hJx]; exact ⟨c, y, i1, rfl⟩⟩⟩
            · rw [e1]
              exact q1
            · rw [e1]
              exact q2
        have hbeg : ∀ st1, Run (XR X l ms (.loop (rec .busy none)) w1 (S s) (E s) (roundQ Jn Je)) [.code body] st1 → ∀ a w, G (XR X l ms (.loop (rec .ready none)) w1 (S s) (E s) (fun _ _ _ => False)) st1 a w → ∃ w₂, (Instr.beginRound l).run X.P w = .ok () w₂ ∧ body.wpIn (Fence.wide.inRound l) 0 X.P (roundPost X.P l fun e w' => ∃ E', E'.n0 = (fun b => n0 ≤ b ∨ inNames wr b) ∧ E'.J w' ∧ Kept (RM (S s) (E s) l) w1 w' ∧ (∀ b, E'.D b → RM (S s) (E s) l b ∨ w1.heap.size ≤ b) ∧ ((e = .returned (.bool true) ∧ JJ (pre ++ [x]) E') ∨ (e = .returned (.bool false) ∧ Jx E'))) a w₂ := by
          intro st1 hr1 a3 w3 g3
          have hrc : w3.heap[l]? = some (.loop (rec .ready none)) := g3.ex.J.2.1
          refine ⟨_, run_beginRound hrc (by rw [hrec]), ?_⟩
          have e1 : ({ rec .ready none with state := LoopState.busy } : Loop) = rec .busy none := by rw [hrec]
          rw [e1]
          have h5 := hr1 a3 _ (g_rec (Q' := roundQ Jn Je) (b := rec .busy none) g3 ⟨c1.lx.2.1, c1.lx.2.2.1⟩)
          refine wpIn_mono (show body.wpIn (Fence.wide.inRound l) 0 X.P (roundQ Jn Je) a3 _ from h5) fun e a w h => ?_
          cases e with
          | normal => exact hfin none a w h
          | ret => exact hfin (some .ret) a w h
          | exit id => exact hfin (some (.exit id)) a w h
          | goto t => exact h.elim
          | panic c => exact h.elim
          | outgrown => exact h.elim
        have h6 := round pre x s hpre hI l ms (.loop (rec .ready none)) (.loop (rec .busy none)) w1 _ Jn Je hkk ⟨⟨c1.lx.2.2.1, fun D hD => (c1.mx D hD).2.2.1⟩, c1.kp.size⟩ hbeg (fun s' sl i1 i2 a w g => by rw [hJn]; exact ⟨s', sl, i1, i2, g_Q g⟩) (fun c y sl i1 _ i2 a w g => by rw [hJe]; exact ⟨y, sl, i1, i2, g_Q g⟩)
        have g0 : G (XR X l ms (.loop (rec .ready none)) w1 (S s) (E s) (fun _ _ _ => False)) ⟨st.sl, S s⟩ { tmps := a.tmps, defers := [] } w1 := ⟨Mk.none rfl, gg.sz, gg.sl, fun p hp => ⟨(c1.hh p hp).1, fun _ => .inl ⟨p.2, hp⟩⟩, c1.ne, c1.nd, Kept.refl _ _, ⟨⟨c1.ex.J, c1.rc, c1.ms⟩, fun p hp => ⟨(c1.ex.hp p hp).1, fun hD => by
          rcases hD with hD | hD | hD
          · exact hn.1 p hp hD
          · exact hn.2 p hp hD
          · exact (c1.ex.hp p hp).2 hD⟩, c1.ex.n0⟩⟩
        have g2 := par_ok (l := psa.toList.zip x) g0 (fun p hp => by
          have h7 := List.all_eq_true.1 hps p.1 (List.of_mem_zip hp).1
          exact Nat.le_of_ble_eq_true h7)
        rw [fold_put] at g2
        have h8 := h6 _ _ g2
        refine ⟨fn, _, assign, body, by rw [hrec] at hy; exact hy, roundIn_of_wpIn trivial ?_⟩
        have e2 : (psa.zip x.toArray).foldl (fun tmps (x : Tmp × Value) => tmps.setIfInBounds x.1 x.2) a.tmps = (psa.toList.zip x).foldl (fun t p => t.setIfInBounds p.1 p.2) a.tmps := by
          rw [← Array.foldl_toList, Array.toList_zip]
        rw [hrec]
        show assign.wpIn (Fence.wide.inRound l) 0 X.P _ { tmps := (psa.zip x.toArray).foldl (fun tmps (x : Tmp × Value) => tmps.setIfInBounds x.1 x.2) a.tmps, defers := [] } w1
        rw [e2]
        exact h8
      · refine ⟨l, [mark w.heap.size], W1, { target := .fn (.func gf) caps, args := #[.func (.yield l) #[] #[]] }, W1, gf, #[.func (.yield l) #[] #[]] ++ caps, W1, ?_, ?_, fun _ _ => trivial, qrun_run (hgo l) W1, fun h => by simp [Cx.F, Fence.wide] at h, ?_⟩
        · rw [hl, ← hW1, hrec]
          exact run_enterLoop_outer _ _ _ _ _
        · simp only [resolve, hev]
          simp [go_sem]
        · have h9 : CallsIn Fence.wide (X.n - 1) X.P gf (#[.func (.yield l) #[] #[]] ++ caps) W1 _ := callsIn_wide.2 hcall
          refine CallsIn.mono (F := X.F) h9 fun e w3 ⟨he, ⟨xw, hxw⟩, E', hE1, hE2, hE3⟩ => ?_
          subst he
          have hWm : ∀ x, ∀ p ∈ Wr x, p.1 ∈ wr.map (·.1) := fun x p hp => by rw [← hWn x]; exact List.mem_map.2 ⟨p, hp, rfl⟩
          have hWp : ∀ x, (Wr x).Pairwise fun p q => p.1 ≠ q.1 := fun x => by
            have h1 : (wr.map (·.1)).Pairwise (· ≠ ·) := List.pairwise_map.2 hpw.1
            rw [← hWn x] at h1
            exact List.pairwise_map.1 h1
          have hnd : ms.Nodup := by
            rw [hms, List.nodup_cons]
            refine ⟨fun hm => ?_, d2⟩
            have := (Array.getElem?_eq_some_iff.1 (d3 _ hm).1).1
            omega
          rcases hE3 with ⟨ys, hfin, hj⟩ | hj
          · rw [hJJ] at hj
            obtain ⟨s, hI, rfl⟩ := hj
            have c3 : CJ X (inNames wr) (S s) (E s) l (.loop (rec .ready none)) ms n0 w3 := hE2
            refine ⟨_, _, run_endLoop c3.rc (by rw [hrec]; simp), ?_⟩
            have h10 := hdone xw ys s hfin hI _ _ (range_end (o' := { rec .ready none with state := .exhausted }) gg c3 (hWm xw) (hWp xw) (hWd xw) hxw hms hnd d1)
            rw [wpK_E] at h10
            rw [hrec] at h10 ⊢
            exact h10
          · rw [hJx] at hj
            obtain ⟨c, y, hI, rfl⟩ := hj
            have c3 : CJ X (inNames wr) (Sx y) (Ex y) l (.loop (rec .done (some c))) ms n0 w3 := hE2
            refine ⟨_, _, run_endLoop c3.rc (by rw [hrec]; simp), ?_⟩
            have h10 := hstop xw c y hI _ _ (range_end (o' := { rec .done (some c) with state := .exhausted }) gg c3 (hWm xw) (hWp xw) (hWd xw) hxw hms hnd d1)
            rw [wpK_E] at h10
            rw [hrec] at h10 ⊢
            exact h10
  · cases h
/-- A range over a function. -/
theorem run_range {X : Cx} {k : List KI} {st : St} {σ τ : Type} (gf : FuncId) (caps : Array Value) (ps : List Tmp) (own rest : List (Nat × Obj)) (Pin : (Nat → Prop) → World → Prop) (Pre Fin : List (List Value) → Prop) (h : headRange k st = some (.func (.func gf) #[] caps, ps)) (hrd : X.rd = none) (hX : X.lo = X.B.heap.size)
    (hgo : ∀ l, qrun X.P (invoke (.fn (.func gf) caps) #[.func (.yield l) #[] #[]]) = some (.enter gf (#[.func (.yield l) #[] #[]] ++ caps))) (hhp : st.hp = own ++ rest) (hps : ps.all (fun p => Nat.blt p X.N) = true) (hlen : ∀ pre x, Pre (pre ++ [x]) → x.length = ps.length) (hg : Gives X.P gf caps own Pin Pre Fin) (hPin : ∀ D w, Kept X.M X.B w → (∀ b, b < X.B.heap.size → D b → X.M b) → Pin D w)
    (S : σ → List (Nat × Obj)) (E : σ → Ext) (I : List (List Value) → σ → Prop) (Sx : τ → List (Nat × Obj)) (Ex : τ → Ext) (Ix : Code → τ → Prop) (x0 : σ) (h0 : I [] x0) (hs0 : S x0 = rest) (hE0 : E x0 = X.E)
    (hDM : ∀ pre s, I pre s → (E s).n0 = X.E.n0 ∧ ∀ b, b < X.B.heap.size → (E s).D b → X.M b) (hDx : ∀ c y, Ix c y → (Ex y).n0 = X.E.n0)
    (round : ∀ pre x s, Pre (pre ++ [x]) → I pre s → ∀ (l : Nat) (ms : List Nat) (r b : Obj) (w1 : World) (Jb Jn : Act → World → Prop) (Je : Code → Act → World → Prop), (∀ w, Kept (RM (S s) (E s) l) w1 w → Kept X.M X.B w) → ((¬ (E s).D l ∧ ∀ D ∈ ms, ¬ (E s).D D) ∧ X.B.heap.size ≤ w1.heap.size) →
      (∀ st1, Run (XR X l ms b w1 (S s) (E s) (roundQ Jn Je)) [.code (rangeB k)] st1 → ∀ a w, G (XR X l ms r w1 (S s) (E s) (fun _ _ _ => False)) st1 a w → Jb a w) →
      (∀ s' sl, I (pre ++ [x]) s' → (∀ b, (E s').D b → (E s).D b ∨ w1.heap.size ≤ b) → ∀ a w, G ((XR X l ms b w1 (S s) (E s) (roundQ Jn Je)).withE (rE (E s') l b ms)) ⟨sl, S s'⟩ a w → Jn a w) →
      (∀ c y sl, Ix c y → (c = .ret ∨ ∃ id, c = .exit id) → (∀ b, (Ex y).D b → (E s).D b ∨ w1.heap.size ≤ b) → ∀ a w, G ((XR X l ms b w1 (S s) (E s) (roundQ Jn Je)).withE (rE (Ex y) l b ms)) ⟨sl, Sx y⟩ a w → Je c a w) →
      Run (XR X l ms r w1 (S s) (E s) (fun _ _ _ => False)) [.code (rangeA k), .lp Jb] (parSt ps x ⟨st.sl, S s⟩))
    (hdone : ∀ ys s, Fin ys → I ys s → Run (X.withE (E s)) k.tail ⟨st.sl, S s⟩) (hstop : ∀ c y, Ix c y → Run (X.withE (Ex y)) (.code c :: k.tail) ⟨st.sl, Sx y⟩) : Run X k st :=
  run_rangeW (υ := Unit) [] (fun _ => []) (fun _ => rfl) (fun _ _ h => by cases h) gf caps ps own rest Pin Pre Fin h hrd hX hgo hhp hps hlen (fun l J Jx E0 w hn hW _ h1 h2 h3 h4 h5 h6 => (hg.w l J Jx E0 w (by rw [hn]; funext b; simp [inNames]) (fun _ h => h.elim) trivial h1 h2 h3 h4 h5 h6).mono fun e w' ⟨a, _, b⟩ => ⟨a, ⟨(), fun _ h => by cases h⟩, b⟩) hPin S E I Sx Ex Ix x0 h0 hs0 hE0 hDM hDx round (fun _ => hdone) (fun _ => hstop)
end Go.Proofs.Ytfjfkaaflghaiaa

namespace Go.Proofs.Ytfjfkaaflghaiaa
open Go.RowKit

theorem G.hpsub {X : Cx} {st : St} {a : Act} {w : World} (h : G X st a w) {hp' : List (Nat × Obj)} (hs : ∀ p ∈ hp', p ∈ st.hp) (hn : hp'.Pairwise fun p q => p.1 ≠ q.1) : G X ⟨st.sl, hp'⟩ a w :=
  ⟨h.df, h.sz, h.sl, fun p hp => h.hp p (hs p hp), hn, fun p hp => h.nd p (hs p hp), h.kp, ⟨h.ex.J, fun p hp => h.ex.hp p (hs p hp), h.ex.n0⟩⟩
theorem erase_ne {α : Type} {l : List (Nat × α)} (h : l.Pairwise fun p q => p.1 ≠ q.1) {j : Nat} {p q : Nat × α} (hj : l[j]? = some p) (hq : q ∈ l.eraseIdx j) : p.1 ≠ q.1 := by
  obtain ⟨i, hi, h1⟩ := List.mem_eraseIdx_iff_getElem?.1 hq
  exact pairwise_ne h hj h1 (Ne.symm hi)
def appSem (t ty : TypeId) (v x : Value) : Sem Next := Builtin.append_ #[t, t] ty #[v, x] >>= fun v => pure (Next.value v)
/-- A store into a row of the call's own, at a place that is not written out. -/
theorem run_store {X : Cx} {k : List KI} {st : St} (j b off : Nat) (t : TypeId) (v : Value) (c c' : List Value) (e : TypeId) (h : headSem X.N k st = some ((do Instr.storeAt t (.pointer (some ⟨b, off, none⟩)) v; pure .skip), none)) (hj : st.hp[j]? = some (b, .cells c.toArray e (0, 0))) (hs : storeV X.P t c off v = some c')
    (hr : Run X (nextK k) ⟨st.sl, st.hp.set j (b, .cells c'.toArray e (0, 0))⟩) : Run X k st := by
  intro a w g
  refine head_at h g ?_
  have hb := (g.hp _ (List.mem_of_getElem? hj)).1
  have hl := store_own (P := X.P) (t := t) hb hs
  simp only [Sem.run_bind, hl, Result.andThen, Sem.run_pure]
  exact hr _ _ (g.setRow hj c'.toArray)
/-- A load of a row of the call's own, at a place that is not written out. -/
theorem load_own {P : Program} {t : TypeId} {hp : List (Nat × Obj)} {w : World} (h : Hp hp w) {b off : Nat} {c : List Value} {e : TypeId} {fr : Nat × Nat} (hm : (b, Obj.cells c.toArray e fr) ∈ hp) {v : Value} (hv : loadV P t c off = some v) : (Instr.loadAt t (.pointer (some ⟨b, off, none⟩)) >>= fun v => pure (Next.value v)).run P w = .ok (.value v) w := by
  have hb := h _ hm
  have h1 := load_cells (P := P) (w := w) (t := t) (base := 0) (fun i u hi => by rw [Nat.zero_add]; exact cells_of_heap hb i u hi) hv
  rw [Nat.zero_add] at h1
  simp only [Sem.run_bind, h1, Result.andThen, Sem.run_pure]
/-- make([]T, n). -/
theorem run_make {X : Cx} {k : List KI} {st : St} {t e : TypeId} {i : TypeInfo} {z : Value} (ht : X.P.underlying t = some (.slice e)) (hi : X.P.info? e = some i) (hz : i.zero = some z)
    (d : Option Tmp) (n : Nat) (hn : n ≤ maxLen) (hc : n * i.size ≤ 16777216) (hnb : i.bytes * n ≤ 281474976710656) (h : headSem X.N k st = some ((Instr.makeSlice t (.int .i64 (n : Int)) (.int .i64 (n : Int)) >>= fun v => pure (Next.value v)), d))
    (hr : ∀ g cs, X.B.heap.size ≤ g → cs = (madeCells z.cells (n * i.size)).toList → Run X (nextK k) ((⟨st.sl, (g, .cells cs.toArray e (0, 0)) :: st.hp⟩ : St).put d (.slice (some ⟨g, 0, none⟩) n n))) : Run X k st := by
  intro a w g
  refine head_at h g ?_
  have hrun := run_makeSlice (P := X.P) w t e i z ht hi hz .i64 .i64 (n : Int) (n : Int) (by omega) (Int.le_refl _) (by rw [Int.toNat_natCast]; exact hc) (by have h3 : ((i.bytes * n : Nat) : Int) ≤ ((281474976710656 : Nat) : Int) := Int.ofNat_le.2 hnb; rw [Int.natCast_mul] at h3; exact h3) (by simp only [maxLen] at hn; omega)
  have e1 : ((n : Int)).toNat = n := by simp
  rw [e1] at hrun
  simp only [Sem.run_bind, hrun, Result.andThen, Sem.run_pure]
  have g1 := g.alloc (.cells (madeCells z.cells (n * i.size)) e (0, 0)) rfl
  have h2 := hr w.heap.size _ g.kp.size rfl (a.put d (.slice (some ⟨w.heap.size, 0, none⟩) n n)) (w.alloc (.cells (madeCells z.cells (n * i.size)) e (0, 0)))
  rw [Array.toArray_toList] at h2
  exact h2 (g1.put (headSem_dst h) _)
end Go.Proofs.Ytfjfkaaflghaiaa

namespace Go.Proofs.Ytfjfkaaflghaiaa
open Go.RowKit

/-- There is no such state. -/
theorem run_void {X : Cx} {k : List KI} {sl : List (Nat × Value)} {b : Nat} {l : List (Nat × Obj)} : Run X k ⟨sl, (b, .deferred none) :: l⟩ := by
  intro a w g
  have := g.nd _ (List.mem_cons_self)
  cases this
section
variable {R : Rg} {X : Cx} {k : List KI} {i : Nat}
/-- What comes behind an operation that panics. -/
theorem tri_void (h : ∀ β, ∃ b l, R.nh i β = (b, .deferred none) :: l) : R.Tri X k i := by
  intro β w J extra _ _ _
  obtain ⟨b, l, e⟩ := h β
  rw [e]
  exact run_void
theorem tri_panics {fn : Func} {S : Ending → World → Prop} (hQ : X.Q = bodyPostM Fence.wide 2 X.P fn S) (hlo : X.B.heap.size ≤ X.lo) (f : FuncId) (args : (Nat → Nat) → Array Value) (c : List PanicEntry) (h : ∀ β extra, headCall X.P X.N [.ops R.ops [i]] ⟨R.ns i β ++ extra, R.nh i β⟩ = some (f, args β, R.dst i))
    (hc : ∀ β w, Kept X.M X.B w → Hp (R.nh i β) w → Calls X.P f (args β) w fun e w' => e = .panicked c ∧ Keeps w w') (hS : ∀ w, Kept X.M X.B w → S (.panicked c) w) : R.Tri X k i := by
  intro β w J extra hkp hm _
  have key : headCall X.P X.N [.ops R.ops [i], .lp J] ⟨R.ns i β ++ extra, R.nh i β⟩ = some (f, args β, R.dst i) := h β extra
  obtain ⟨s, hs, hq⟩ := headCall_is key
  intro a w1 g
  refine head_at (X := Xw X k w (R.nh i β)) hs g ?_
  rw [show s.run (Xw X k w (R.nh i β)).P w1 = _ from qrun_run hq w1]
  have k1 : Kept X.M X.B w1 := hkp.trans g.kp fun b hb ⟨o, ho⟩ => hm _ ho hb
  refine (hc β w1 k1 g.Hp).mono fun e w' ⟨he, hk⟩ => ?_
  subst he
  show wpK X k (.panic c) a w'
  rw [wpK_panic]
  have g2 : G X ⟨[], []⟩ a w' := ⟨g.df.turn fun D hD => hk.heap (Array.getElem?_eq_some_iff.1 hD).1, g.sz, fun t v ht => (by cases ht), fun _ h => (by cases h), List.Pairwise.nil, fun _ h => (by cases h), k1.then hk, ⟨(g.ex.keeps hk).J, fun _ h => (by cases h), (g.ex.keeps hk).n0⟩⟩
  exact g_panic g2 hlo hQ fun w2 h2 _ => hS w2 h2
end
/-- It returns v, and the block b has turned into o. -/
def Wr (b : Nat) (v : Value) (o : Obj) (w : World) (e : Ending) (w' : World) : Prop := e = .returned v ∧ Kept (fun k => k = b) w w' ∧ w'.heap[b]? = some o
theorem run_wr {X : Cx} {k : List KI} {st : St} (f : FuncId) (args : Array Value) (d : Option Tmp) (v : Value) (j b : Nat) (o o' : Obj) (h : headCall X.P X.N k st = some (f, args, d)) (hj : st.hp[j]? = some (b, o)) (ho : isDef o' = false) (hc : ∀ w, Kept X.M X.B w → Hp st.hp w → Calls X.P f args w (Wr b v o' w))
    (hr : Run X (nextK k) ((⟨st.sl, st.hp.set j (b, o')⟩ : St).put d v)) : Run X k st := by
  refine run_call f args d h (fun _ : Unit => v) (fun _ => st.hp.set j (b, o')) (fun _ => True) (fun w k1 k2 k3 => (hc w k1 k2).mono fun e w' ⟨he, hk, hb⟩ => ⟨(), trivial, he, ?_⟩) (fun hnd _ _ p hp => ?_) (fun _ _ => hr)
  · refine ⟨hk.mono fun x hx => ⟨o, hx ▸ List.mem_of_getElem? hj⟩, fun p hp => ?_, pairwise_set k3 hj⟩
    obtain ⟨i, hi⟩ := List.mem_iff_getElem?.1 hp
    rw [List.getElem?_set] at hi
    split at hi
    · split at hi
      · injection hi with hi
        subst hi
        exact ⟨hb, .inl ⟨o, List.mem_of_getElem? hj⟩⟩
      · cases hi
    · rename_i hne
      have hpp := k2 p (List.mem_of_getElem? hi)
      exact ⟨(hk.block p.1 (Array.getElem?_eq_some_iff.1 hpp).1 (pairwise_ne k3 hi hj (Ne.symm hne))).trans hpp, .inl ⟨p.2, List.mem_of_getElem? hi⟩⟩
  · rcases List.mem_or_eq_of_mem_set hp with hp | rfl
    · exact hnd p hp
    · exact ho
/-- It returns a value with a new block. x is what is not known. -/
def Nw {α : Type} (V : α → Nat → Value) (O : α → Obj) (I : α → Prop) (w : World) (e : Ending) (w' : World) : Prop := ∃ x b, I x ∧ w.heap.size ≤ b ∧ e = .returned (V x b) ∧ Keeps w w' ∧ w'.heap[b]? = some (O x)
theorem run_nw {X : Cx} {k : List KI} {st : St} (f : FuncId) (args : Array Value) (d : Option Tmp) {α : Type} (V : α → Nat → Value) (O : α → Obj) (I : α → Prop) (h : headCall X.P X.N k st = some (f, args, d)) (ho : ∀ x, isDef (O x) = false) (hc : ∀ w, Kept X.M X.B w → Hp st.hp w → Calls X.P f args w (Nw V O I w))
    (hr : ∀ x b, I x → X.B.heap.size ≤ b → Run X (nextK k) ((⟨st.sl, (b, O x) :: st.hp⟩ : St).put d (V x b))) : Run X k st :=
  run_call f args d h (fun y : α × Nat => V y.1 y.2) (fun y => (y.2, O y.1) :: st.hp) (fun y => I y.1 ∧ X.B.heap.size ≤ y.2) (fun w k1 k2 k3 => (hc w k1 k2).mono fun e w' ⟨x, b, hx, hb, he, hk, hh⟩ => ⟨(x, b), ⟨hx, Nat.le_trans k1.size hb⟩, he, .more (new := [(b, O x)]) k2 k3 hk (fun p hp => by rw [List.mem_singleton] at hp; subst hp; exact ⟨hh, hb⟩) (List.pairwise_singleton _ _)⟩)
    (fun hnd y _ p hp => by rcases List.mem_cons.1 hp with rfl | hp; exact ho _; exact hnd p hp) (fun y hy => hr y.1 y.2 hy.1 hy.2)

/-- A call that makes a block, in a region that draws its order. -/
theorem tri_nw {R : Rg} {X : Cx} {k : List KI} {i : Nat} (nid : Nat) (V : (Nat → Nat) → Nat → Value) (O : (Nat → Nat) → Obj) (f : FuncId) (args : (Nat → Nat) → Array Value) (hn : (R.p i).news = [nid]) (h : ∀ β extra, headCall X.P X.N [.ops R.ops [i]] ⟨R.ns i β ++ extra, R.nh i β⟩ = some (f, args β, R.dst i)) (hO : ∀ β, isDef (O β) = false) (hv : ∀ β b, R.v i (updB β nid b) = V β b) (ho : ∀ β b, R.oh i (updB β nid b) = (b, O β) :: R.nh i β) (hb : ∀ β b, R.nm (updB β nid b) nid = b)
    (hc : ∀ β w, Kept X.M X.B w → Hp (R.nh i β) w → Calls X.P f (args β) w (Nw (α := Unit) (fun _ b => V β b) (fun _ => O β) (fun _ => True) w)) : R.Tri X k i := by
  intro β w J extra hkp hm hJ
  have key : headCall X.P X.N [.ops R.ops [i], .lp J] ⟨R.ns i β ++ extra, R.nh i β⟩ = some (f, args β, R.dst i) := h β extra
  refine run_nw (X := Xw X k w (R.nh i β)) f (args β) (R.dst i) (fun _ b => V β b) (fun _ => O β) (fun _ => True) key (fun _ => hO β) (fun w1 k1 k2 => hc β w1 (hkp.trans k1 fun b hb ⟨o, ho⟩ => hm _ ho hb) k2) fun _ b _ hbb => nx_ok (k' := [.lp J]) rfl fun a' w' g => hJ (updB β nid b) (fun id hid => ?_) (fun id hid _ => ?_) ?_ a' w' ?_
  · rw [hn] at hid
    have : (id == nid) = false := by simpa using hid
    unfold updB
    rw [this]
    rfl
  · rw [hn] at hid
    have : id = nid := by simpa using hid
    rw [this, hb]
    exact .inl hbb
  · rw [hn]
    exact one_pw _ _ nid
  · rw [putL_put] at g
    rw [hv, ho]
    exact g
/-- From the beginning of a round on. -/
def LoopIn (F : Fence) (n : Nat) (P : Program) (c : Code) (Q : Exit → Act → World → Prop) (a : Act) (w : World) : Prop :=
  ∀ (b : Frame) (k : List Item) (cs : List Frame), b.roundOf = F.round → F.fn b.fn → F.room (cs.length + 1 + n) →
    ∃ e a' w', Q e a' w' ∧ ArrivesIn (Machine.fenced P F) P (lone (b.atR a (.code c :: .inLoop c :: k)) cs w) b k cs e a' w'
theorem LoopIn.loop {F : Fence} {n : Nat} {P : Program} {c : Code} {Q : Exit → Act → World → Prop} {a : Act} {w : World} (h : LoopIn F n P c Q a w) : (Code.loop c).wpIn F n P Q a w := fun b k cs hro hb hr =>
  let ⟨e, a', w', hq, harr⟩ := h b k cs hro hb hr
  ⟨e, a', w', hq, .of_steps (.one (fenced_calm hb hr rfl) stepR_loop) harr⟩
theorem LoopIn.once {F : Fence} {n : Nat} {P : Program} {c : Code} {Q : Exit → Act → World → Prop} {a : Act} {w : World} (h : c.wpIn F n P (Exit.then (LoopIn F n P c Q) Q) a w) : LoopIn F n P c Q a w := by
  intro b k cs hro hb hr
  obtain ⟨e, a₁, w₁, hq, harr⟩ := h b (.inLoop c :: k) cs hro hb hr
  cases e with
  | normal =>
    obtain ⟨e₂, a₂, w₂, hq₂, harr₂⟩ := hq b k cs hro hb hr
    exact ⟨e₂, a₂, w₂, hq₂, .of_steps (StepsIn.trans harr (.one (fenced_calm hb hr rfl) stepR_inLoop)) harr₂⟩
  | exit id => exact ⟨_, a₁, w₁, hq, .pass (x := .inLoop c) rfl (fun _ _ => .inl (by simp)) harr⟩
  | goto l => exact ⟨_, a₁, w₁, hq, .pass (x := .inLoop c) rfl (fun _ _ => .inl (by simp)) harr⟩
  | ret => exact ⟨_, a₁, w₁, hq, .pass (x := .inLoop c) rfl (fun _ _ => .inl (by simp)) harr⟩
  | panic ch => exact ⟨_, a₁, w₁, hq, .pass (x := .inLoop c) rfl (fun _ _ => .inl (by simp)) harr⟩
  | outgrown => exact ⟨_, a₁, w₁, hq, .pass (x := .inLoop c) rfl (fun _ _ => .inl (by simp)) harr⟩
end Go.Proofs.Ytfjfkaaflghaiaa

namespace Go.Proofs.Ytfjfkaaflghaiaa
open Go.RowKit

/-- A function that is called while this is so of others. -/
theorem calls_runE {P : Program} {f : FuncId} {fn : Func} {c : Code} (args : List Value) {w : World} {R : Ending → World → Prop} (hf : P.funcs[f]? = some fn) (hb : fn.body = some c) (E0 : Ext) (hn : E0.n0 = fun b => w.heap.size ≤ b) (hJ : E0.J w) (N : Nat) (hN : fn.ntmps = N) (ha : args.length ≤ N)
    (h : Run { P := P, lo := w.heap.size, rd := none, n := 2, M := E0.D, B := w, N := N, Q := bodyPostM Fence.wide 2 P fn R, E := E0 } [.code c] ⟨sl0 args, []⟩) : Calls P f args.toArray w R := by
  refine callsIn_wide.1 (callsIn_of_wp_marks (n := 2) hf hb trivial ?_)
  refine h _ w ⟨Mk.none rfl, by simp; omega, fun t v ht => ?_, fun p hp => (by cases hp), List.Pairwise.nil, fun p hp => (by cases hp), Kept.refl _ _, ⟨hJ, fun p hp => (by cases hp), fun b hb => by rw [hn]; exact hb⟩⟩
  have h1 := look_range (f := id) (fun _ _ h => h) ht
  have hlt : t < args.length := (List.getElem?_eq_some_iff.1 h1).1
  have h2 := (List.getElem?_eq_some_iff.1 h1).2
  simp [Array.getElem?_append, hlt, h2]
/-- The end, with what is so of others. -/
theorem run_endE {X : Cx} {k : List KI} {st : St} {fn : Func} {R : Ending → World → Prop} (hQ : X.Q = bodyPostM Fence.wide 2 X.P fn R) (hlo : X.B.heap.size ≤ X.lo) (hk : isRet k = true) (hs : List Nat) (l : List Value) {e : List (Value × Value)} (h : resV X.P st fn.results.toList hs = some (l, e)) (he : EqAll e)
    (hR : ∀ w, Kept X.M X.B w → Hp st.hp w → X.E.J w → R (.returned (resVal l)) w) : Run X k st := by
  intro a w g
  have h2 : bodyPostM Fence.wide 2 X.P fn R .ret a w := by
    obtain ⟨Ds, h1, h2, h3, h4⟩ := g.shut hlo
    show LeavesInM Fence.wide 2 X.P fn a.tmps R a.defers .returning w
    rw [h1]
    exact leave_marks (by simp) h2 h3 fun w' k => ⟨_, results_run (h4 w' k) h he, hR w' (h4 w' k).kp (h4 w' k).Hp (h4 w' k).ex.J⟩
  unfold isRet at hk
  split at hk
  · show X.Q .normal a w
    rw [hQ]
    exact h2
  · rename_i k'
    refine wpIn_ret ?_
    rw [wpK_ret, hQ]
    exact h2
  · cases hk
/-- A return in a round. -/
def isRetQ (k : List KI) : Bool := match k with
  | .code .ret :: _ => true
  | _ => false
theorem run_retQ {X : Cx} {k : List KI} {st : St} (hk : isRetQ k = true) (h : ∀ a w, G X st a w → X.Q .ret a w) : Run X k st := by
  unfold isRetQ at hk
  split at hk
  · intro a w g
    refine wpIn_ret ?_
    rw [wpK_ret]
    exact h a w g
  · cases hk
/-- The end of a round. -/
theorem run_nil {X : Cx} {k : List KI} {st : St} (hk : k.isEmpty = true) (h : ∀ a w, G X st a w → X.Q .normal a w) : Run X k st := by
  cases k with
  | nil => exact h
  | cons _ _ => cases hk

theorem wpK_goto {X : Cx} {l : Nat} : ∀ k : List KI, wpK X k (.goto l) = X.Q (.goto l)
  | [] => rfl
  | .code _ :: k => wpK_goto k
  | .ops _ _ :: k => wpK_goto k
  | .blk _ :: k => wpK_goto k
  | .lp _ :: k => wpK_goto k
def isScope (k : List KI) : Bool := match k with
  | .code (.scope _) :: _ => true
  | _ => false
def scopeK (k : List KI) : List KI := match k with
  | .code (.scope c) :: k => .code c :: k
  | k => k
/-- A scope out of which nobody jumps. -/
theorem run_scope {X : Cx} {k : List KI} {st : St} (hrd : X.rd = none) (hg : ∀ l a w, X.Q (.goto l) a w → False) (hk : isScope k = true) (h : Run X (scopeK k) st) : Run X k st := by
  unfold isScope at hk
  split at hk
  · rename_i c k'
    intro a w g
    have hF : X.F = Fence.wide := by unfold Cx.F; rw [hrd]; rfl
    have h1 : c.wpIn X.F X.n X.P (wpK X k') a w := h a w g
    show (Code.scope c).wpIn X.F X.n X.P (wpK X k') a w
    rw [hF] at h1 ⊢
    refine wpIn_wide.2 (wp_scope_straight (wpIn_wide.1 (wpIn_mono h1 fun e a w he => ?_)))
    cases e with
    | goto l =>
      rw [wpK_goto] at he
      exact hg _ _ _ he
    | _ => exact he
  · cases hk
theorem YieldW.mono {P : Program} {l : Nat} {args : Array Value} {w : World} {R R' : Ending → World → Prop} (h : YieldW P l args w R) (hm : ∀ e w', R e w' → R' e w') : YieldW P l args w R' := by
  obtain ⟨fn, tmps, assign, body, hrun, hround⟩ := h
  exact ⟨fn, tmps, assign, body, hrun, hround.mono fun e w' he => hm e w' he⟩
/-- What yield's caller knows of it. -/
def Ygives (P : Program) (l : Nat) (args : Array Value) (E : Ext) (A B : Ext → Prop) (w : World) : Prop := YieldW P l args w fun e w' => ∃ E', E'.n0 = E.n0 ∧ E'.J w' ∧ Kept E.D w w' ∧ (∀ b, E'.D b → E.D b ∨ w.heap.size ≤ b) ∧ ((e = .returned (.bool true) ∧ A E') ∨ (e = .returned (.bool false) ∧ B E'))
theorem Ygives.of {P : Program} {l : Nat} {args : Array Value} {E : Ext} {A B : Ext → Prop} {w : World} {n : Nat → Prop} (h : YieldW P l args w fun e w' => ∃ E', E'.n0 = n ∧ E'.J w' ∧ Kept E.D w w' ∧ (∀ b, E'.D b → E.D b ∨ w.heap.size ≤ b) ∧ ((e = .returned (.bool true) ∧ A E') ∨ (e = .returned (.bool false) ∧ B E'))) (hn : E.n0 = n) : Ygives P l args E A B w := by
  subst hn
  exact h
def Yt (A B : Ext → Prop) (E : Ext) (t : Bool) : Prop := match t with
  | true => A E
  | false => B E
theorem Ygives.out {P : Program} {l : Nat} {args : Array Value} {E : Ext} {A B : Ext → Prop} {w : World} (h : Ygives P l args E A B w) : YieldW P l args w fun e w' => ∃ E' t, Yt A B E' t ∧ E'.n0 = E.n0 ∧ e = .returned (.bool t) ∧ E'.J w' ∧ Kept E.D w w' ∧ ∀ b, E'.D b → E.D b ∨ w.heap.size ≤ b :=
  h.mono fun e w' ⟨E', h1, h2, h3, h4, h5⟩ => by
    rcases h5 with ⟨h5, h6⟩ | ⟨h5, h6⟩
    · exact ⟨E', true, h6, h1, h5, h2, h3, h4⟩
    · exact ⟨E', false, h6, h1, h5, h2, h3, h4⟩
/-- The same in the round of another loop. -/
theorem Ygives.round {P : Program} {l : Nat} {args : Array Value} {E : Ext} {A B : Ext → Prop} {w : World} {l0 : Nat} {o : Obj} {ms : List Nat} (h : Ygives P l args E A B w) (hJ : (rE E l0 o ms).J w) (hl : ¬ E.D l0 ∧ ∀ D ∈ ms, ¬ E.D D) : YieldW P l args w fun e w' => ∃ E' t, (∃ E1, E' = rE E1 l0 o ms ∧ Yt A B E1 t) ∧ E'.n0 = (rE E l0 o ms).n0 ∧ e = .returned (.bool t) ∧ E'.J w' ∧ Kept (rE E l0 o ms).D w w' ∧ ∀ b, E'.D b → (rE E l0 o ms).D b ∨ w.heap.size ≤ b := by
  have hlt : ∀ {b : Nat} {o : Obj}, w.heap[b]? = some o → b < w.heap.size := fun h => (Array.getElem?_eq_some_iff.1 h).1
  refine h.out.mono fun e w' ⟨E', t, h1, h2, h3, h4, h5, h6⟩ => ⟨rE E' l0 o ms, t, ⟨E', rfl, h1⟩, h2, h3, ⟨h4, (h5.block _ (hlt hJ.2.1) hl.1).trans hJ.2.1, fun D hD => (h5.block _ (hlt (hJ.2.2 D hD)) (hl.2 D hD)).trans (hJ.2.2 D hD)⟩, h5.mono fun b hb => .inr (.inr hb), fun b hb => ?_⟩
  rcases hb with hb | hb | hb
  · exact .inl (.inl hb)
  · exact .inl (.inr (.inl hb))
  · exact (h6 b hb).imp_left fun h => .inr (.inr h)
end Go.Proofs.Ytfjfkaaflghaiaa

namespace Go.Proofs.Ytfjfkaaflghaiaa
open Go.RowKit

def rowL (len : Nat) (f : Nat → List Value) : List Value := (List.range len).flatMap f
section
variable {P : Program} {t : TypeId} {n len i : Nat} {f : Nat → List Value}
end
theorem row_made {z : Array Value} {n : Nat} (hz : z.size = n) (hn : 0 < n) : ∀ len : Nat, (madeCells z (len * n)).toList = rowL len fun _ => z.toList
  | 0 => by simp [madeCells, rowL]
  | len + 1 => by
    have ih := row_made hz hn len
    unfold madeCells at ih ⊢
    rw [Array.toList_map, Array.toList_range] at ih ⊢
    rw [Nat.succ_mul, List.range_add, List.map_append, ih]
    unfold rowL
    rw [List.range_succ, List.flatMap_append]
    congr 1
    rw [List.map_map]
    simp only [List.flatMap_cons, List.flatMap_nil, List.append_nil]
    apply List.ext_getElem
    · simp [hz]
    · intro j h1 h2
      have hj : j < n := by simpa using h1
      simp [hz, Nat.mod_eq_of_lt hj, hj]
def tyBytes (P : Program) (t : TypeId) : Nat := ((P.info? t).map (·.bytes)).getD 0
def tyZero (P : Program) (t : TypeId) : Option Value := (P.info? t).bind (·.zero)
/-- make([]T, n), by what lies at each place. -/
theorem run_mk {X : Cx} {k : List KI} {st : St} (t e : TypeId) (n : Nat) (z : Value) (ht : X.P.underlying t = some (.slice e)) (hs : tySize X.P e = some n) (hz : tyZero X.P e = some z) (hzn : z.cells.size = n) (hn : 0 < n)
    (d : Option Tmp) (len : Nat) (hl : len ≤ maxLen) (hc : len * n ≤ 16777216) (hb : tyBytes X.P e * len ≤ 281474976710656) (h : headSem X.N k st = some ((Instr.makeSlice t (.int .i64 (len : Int)) (.int .i64 (len : Int)) >>= fun v => pure (Next.value v)), d))
    (hr : ∀ g, X.B.heap.size ≤ g → Run X (nextK k) ((⟨st.sl, (g, .cells (rowL len fun _ => z.cells.toList).toArray e (0, 0)) :: st.hp⟩ : St).put d (.slice (some ⟨g, 0, none⟩) len len))) : Run X k st := by
  unfold tySize at hs
  unfold tyZero at hz
  unfold tyBytes at hb
  cases hi : X.P.info? e with
  | none => rw [hi] at hs; cases hs
  | some i =>
    rw [hi] at hs hz hb
    have hs : i.size = n := by injection hs
    refine run_make (i := i) (z := z) ht hi hz d len hl (by rw [hs]; exact hc) hb h fun g cs hg hcs => ?_
    rw [hs, row_made hzn hn] at hcs
    rw [hcs]
    exact hr g hg
/-- An element of a slice, at a given place. -/
theorem idx_off {P : Program} {t e : TypeId} {n : Nat} (hu : P.underlying t = some (.slice e)) (hs : tySize P e = some n) (b o : Nat) (len cap : Nat) (k : IntKind) (i : Nat) (hi : i < len) (off : Nat) (ho : o + i * n = off) (w : World) :
    (Instr.indexAt t (.slice (some ⟨b, o, none⟩) len cap) (.int k (i : Int)) >>= fun v => pure (Next.value v)).run P w = .ok (.value (.pointer (some ⟨b, off, none⟩))) w := by
  subst ho
  exact idx_run hu hs b o len cap k i hi w
end Go.Proofs.Ytfjfkaaflghaiaa

namespace Go.Proofs.Ytfjfkaaflghaiaa
open Go.RowKit Go.ChangeMaps

theorem setBlock_other {w : World} {b k : Nat} {o : Obj} (h : k ≠ b) : (setBlock w b o).heap[k]? = w.heap[k]? := by
  unfold setBlock
  exact Array.getElem?_setIfInBounds_ne (Ne.symm h)
theorem setBlock_same {w : World} {b : Nat} {o : Obj} (h : b < w.heap.size) : (setBlock w b o).heap[b]? = some o := by
  unfold setBlock
  simp [h]
theorem setBlock_size {w : World} {b : Nat} {o : Obj} : (setBlock w b o).heap.size = w.heap.size := by simp [setBlock]
theorem Kept.setBlock {M : Nat → Prop} {B w : World} (h : Kept M B w) {b : Nat} {o : Obj} (hb : b < B.heap.size → M b) : Kept M B (setBlock w b o) :=
  ⟨h.os, h.tape, h.output, by rw [setBlock_size]; exact h.size, fun k hk hn => by
    have hne : k ≠ b := fun e => by subst e; exact hn (hb hk)
    exact (setBlock_other hne).trans (h.block k hk hn)⟩
/-- A block of the call's own turns. -/
theorem G.setBlock {X : Cx} {st : St} {a : Act} {w : World} (h : G X st a w) {j b : Nat} {o : Obj} (hj : st.hp[j]? = some (b, o)) (o' : Obj) (hd : isDef o' = false) : G X ⟨st.sl, st.hp.set j (b, o')⟩ a (setBlock w b o') := by
  have hb := h.hp _ (List.mem_of_getElem? hj)
  have hbd := h.nd _ (List.mem_of_getElem? hj)
  have hlt : b < w.heap.size := (Array.getElem?_eq_some_iff.1 hb.1).1
  refine ⟨h.df.turn fun D hD => setBlock_other (fun e => by subst e; rw [hb.1] at hD; injection hD with hD; subst hD; cases hbd), h.sz, h.sl, fun p hp => ?_, pairwise_set h.ne hj, fun p hp => ?_, h.kp.setBlock hb.2, ?_⟩
  rotate_left
  · rcases List.mem_or_eq_of_mem_set hp with hp | rfl
    · exact h.nd p hp
    · exact hd
  · refine ⟨X.E.stab _ _ h.ex.J ((Kept.refl _ w).setBlock fun _ => h.ex.hp _ (List.mem_of_getElem? hj)), fun p hp => ?_, by rw [setBlock_size]; exact h.ex.n0⟩
    rcases List.mem_or_eq_of_mem_set hp with hp | rfl
    · exact h.ex.hp p hp
    · exact h.ex.hp (b, o) (List.mem_of_getElem? hj)
  obtain ⟨i, hi⟩ := List.mem_iff_getElem?.1 hp
  rw [List.getElem?_set] at hi
  split at hi
  · rename_i e
    split at hi
    · injection hi with hi
      subst hi
      exact ⟨setBlock_same hlt, hb.2⟩
    · cases hi
  · rename_i hne
    have hpp := h.hp p (List.mem_of_getElem? hi)
    exact ⟨(setBlock_other (pairwise_ne h.ne hi hj (Ne.symm hne))).trans hpp.1, hpp.2⟩
section
variable {P : Program}
theorem findAsking_none {kt : TypeId} {key : Value} {w : World} : ∀ (l : List MapEntry) (i : Nat), (∀ e ∈ l, (Op.equal kt key e.key).run P w = .ok false w) → (Instr.findAsking kt key l i).run P w = .ok none w
  | [], _, _ => rfl
  | e :: l, i, h => by
    have h1 := h e List.mem_cons_self
    have h2 := findAsking_none l (i + 1) fun e he => h e (List.mem_cons_of_mem _ he)
    unfold Instr.findAsking
    simp only [Sem.run_bind, h1, Result.andThen, Bool.false_eq_true, if_false]
    exact h2
theorem findKey_none {kt : TypeId} {key : Value} {w : World} {fs : Array Field} {l : List MapEntry} (hk : P.underlying kt = some (.struct fs)) (h : ∀ e ∈ l, (Op.equal kt key e.key).run P w = .ok false w) : (Instr.findKey kt key l).run P w = .ok none w := by
  have hu : (Go.underlying kt).run P w = .ok (.struct fs) w := by simp [Go.underlying, program, hk, Sem.run, bind, Sem.bind, pure]
  unfold Instr.findKey
  simp only [Sem.run_bind, hu, Result.andThen]
  cases l with
  | nil => rfl
  | cons e l =>
    have : Instr.findNow (.struct fs) key (e :: l) 0 = none := rfl
    rw [this]
    exact findAsking_none _ _ h
theorem run_mapFresh {w : World} {t kt et : TypeId} {fs : Array Field} {b clock : Nat} {es : Array MapEntry} {key val : Value} (ht : P.underlying t = some (.map kt et)) (hk : P.underlying kt = some (.struct fs)) (hb : w.heap[b]? = some (.map es clock)) (hck : (Instr.checkKey false 10000 kt key).run P w = .ok () w) (hne : ∀ e ∈ es.toList, (Op.equal kt key e.key).run P w = .ok false w) :
    (Instr.mapUpdate t (.map (some b)) key val).run P w = .ok () (setBlock w b (.map (es.push { key, val, born := clock }) (clock + 1))) := by
  have hu : (Go.underlying t).run P w = .ok (.map kt et) w := by simp [Go.underlying, program, ht, Sem.run, bind, Sem.bind, pure]
  have hg : (getObj b).run P w = .ok (.map es clock) w := by simp [getObj, Sem.run, hb]
  have hf := findKey_none (P := P) (l := es.toList) hk hne
  have hs : ∀ o, (setObj b o).run P w = .ok () (setBlock w b o) := fun o => by simp [setObj, Sem.run, hb, setBlock]
  unfold Instr.mapUpdate
  simp only [Sem.run_bind, hu, hg, hck, hf, hs, Result.andThen]
end
def isStructT (P : Program) (t : TypeId) : Bool := match P.underlying t with
  | some (.struct _) => true
  | _ => false
theorem isStructT_is {P : Program} {t : TypeId} (h : isStructT P t = true) : ∃ fs, P.underlying t = some (.struct fs) := by
  unfold isStructT at h
  split at h
  · rename_i fs hu
    exact ⟨fs, hu⟩
  · cases h
/-- A new key's entry, in a map of the call's own. -/
theorem run_mapNew {X : Cx} {k : List KI} {st : St} (j b : Nat) (t kt et : TypeId) (es : Array MapEntry) (clock : Nat) (key val : Value) (h : headSem X.N k st = some ((do Instr.mapUpdate t (.map (some b)) key val; pure .skip), none)) (ht : X.P.underlying t = some (.map kt et)) (hk : isStructT X.P kt = true) (hj : st.hp[j]? = some (b, .map es clock)) (hck : ∀ w, (Instr.checkKey false 10000 kt key).run X.P w = .ok () w) (hne : ∀ e ∈ es.toList, ∀ w, (Op.equal kt key e.key).run X.P w = .ok false w)
    (hr : Run X (nextK k) ⟨st.sl, st.hp.set j (b, .map (es.push { key, val, born := clock }) (clock + 1))⟩) : Run X k st := by
  intro a w g
  refine head_at h g ?_
  obtain ⟨fs, hk⟩ := isStructT_is hk
  have hb := (g.hp _ (List.mem_of_getElem? hj)).1
  have hrun := run_mapFresh (val := val) ht hk hb (hck w) (fun e he => hne e he w)
  simp only [Sem.run_bind, hrun, Result.andThen, Sem.run_pure]
  exact hr _ _ (g.setBlock hj _ rfl)
def bornsL (l : List MapEntry) : Array Nat := (l.map (·.born)).toArray
theorem bornsL_push (l : List MapEntry) (e : MapEntry) : (bornsL l).push e.born = bornsL (l ++ [e]) := by simp [bornsL]
theorem left_perm (e : MapEntry) : ∀ (L : List MapEntry), (L.map (·.born)).Nodup → e ∈ L → L.Perm (e :: L.filter fun x => !(x.born == e.born))
  | [], _, h => by cases h
  | x :: L, hn, h => by
    rw [List.map_cons, List.nodup_cons] at hn
    by_cases hx : x.born = e.born
    · have he : x = e := by
        rcases List.mem_cons.1 h with h | h
        · exact h.symm
        · exact absurd (List.mem_map.2 ⟨e, h, hx.symm⟩) hn.1
      subst he
      have hf : (x :: L).filter (fun y => !(y.born == x.born)) = L := by
        rw [List.filter_cons]
        simp only [beq_self_eq_true, Bool.not_true, Bool.false_eq_true, if_false]
        exact List.filter_eq_self.2 fun y hy => by
          have : y.born ≠ x.born := fun e => hn.1 (List.mem_map.2 ⟨y, hy, e⟩)
          simpa using this
      rw [hf]
    · have hL : e ∈ L := (List.mem_cons.1 h).resolve_left fun h => hx (by rw [h])
      have hf : (x :: L).filter (fun y => !(y.born == e.born)) = x :: L.filter fun y => !(y.born == e.born) := by
        rw [List.filter_cons]
        have : (!(x.born == e.born)) = true := by simpa using hx
        rw [this]
        rfl
      rw [hf]
      exact ((left_perm e L hn.2 hL).cons x).trans (List.Perm.swap e x _)
/-- These entries of a map have been gone through. -/
def MapIn (es : Array MapEntry) (l : List MapEntry) : Prop := (l ++ (leftOf es (bornsL l)).toList).Perm es.toList
theorem MapIn.next {es : Array MapEntry} (hn : (es.toList.map (·.born)).Nodup) {l : List MapEntry} (h : MapIn es l) {e : MapEntry} (he : e ∈ (leftOf es (bornsL l)).toList) : MapIn es (l ++ [e]) := by
  unfold MapIn at h ⊢
  refine List.Perm.trans ?_ h
  rw [List.append_assoc]
  refine List.Perm.append_left l ?_
  have hs : ((leftOf es (bornsL l)).toList.map (·.born)).Nodup := by
    unfold leftOf
    rw [Array.toList_filter]
    exact (List.Sublist.map _ List.filter_sublist).nodup hn
  have h2 := left_perm e _ hs he
  refine List.Perm.trans ?_ h2.symm
  have e2 : (leftOf es (bornsL (l ++ [e]))).toList = (leftOf es (bornsL l)).toList.filter fun x => !(x.born == e.born) := by
    unfold leftOf
    rw [Array.toList_filter, Array.toList_filter, List.filter_filter]
    apply List.filter_congr
    intro x _
    rw [← bornsL_push, contains_push]
    cases (bornsL l).contains x.born <;> cases (x.born == e.born) <;> rfl
  rw [e2]
  rfl
theorem MapIn.done {es : Array MapEntry} {l : List MapEntry} (h : MapIn es l) (h0 : (leftOf es (bornsL l)).size = 0) : l.Perm es.toList := by
  unfold MapIn at h
  have : (leftOf es (bornsL l)).toList = [] := by
    rw [← Array.length_toList] at h0
    exact List.length_eq_zero_iff.1 h0
  rwa [this, List.append_nil] at h
end Go.Proofs.Ytfjfkaaflghaiaa

namespace Go.Proofs.Ytfjfkaaflghaiaa
open Go.RowKit

/-- An operation that writes to a block of the call's own and gives a value. -/
theorem run_upd {X : Cx} {k : List KI} {st : St} (s : Sem Next) (d : Option Tmp) (v : Value) (j b : Nat) (c c' : List Value) (e : TypeId)
    (h : headSem X.N k st = some (s, d)) (hj : st.hp[j]? = some (b, .cells c.toArray e (0, 0)))
    (hq : ∀ w, Kept X.M X.B w → Hp st.hp w → s.run X.P w = .ok (.value v) (w.setRow b c'.toArray))
    (hr : Run X (nextK k) ((⟨st.sl, st.hp.set j (b, .cells c'.toArray e (0, 0))⟩ : St).put d v)) : Run X k st := by
  intro a w g
  refine head_at h g ?_
  rw [hq w g.kp g.Hp]
  exact hr _ _ ((g.setRow hj c'.toArray).put (headSem_dst h) _)
section
variable {P : Program} {t e : TypeId} {n : Nat} (ht : P.underlying t = some (.slice e)) (hs : tySize P e = some n) (b o len cap : Nat) (w : World)
include ht hs
end
-- ---- elements one after the other, then zeros
def rowG {α : Type} (c : α → List Value) (z : List Value) (L : List α) (cap : Nat) : List Value := L.flatMap c ++ (List.replicate (cap - L.length) z).flatten
theorem flat_len {α : Type} {c : α → List Value} {n : Nat} (hc : ∀ x, (c x).length = n) : ∀ L : List α, (L.flatMap c).length = L.length * n
  | [] => by simp
  | x :: L => by
    rw [List.flatMap_cons, List.length_append, hc, flat_len hc L, List.length_cons, Nat.add_mul]
    omega
theorem zeros_len {z : List Value} {n : Nat} (hz : z.length = n) : ∀ m, (List.replicate m z).flatten.length = m * n
  | 0 => by simp
  | m + 1 => by
    rw [List.replicate_succ, List.flatten_cons, List.length_append, hz, zeros_len hz m, Nat.add_mul]
    omega
theorem rowG_len {α : Type} {c : α → List Value} {z : List Value} {n : Nat} (hc : ∀ x, (c x).length = n) (hz : z.length = n) {L : List α} {cap : Nat} (h : L.length ≤ cap) : (rowG c z L cap).length = cap * n := by
  unfold rowG
  rw [List.length_append, flat_len hc, zeros_len hz, ← Nat.add_mul]
  congr 1
  omega
theorem flat_get {α : Type} {c : α → List Value} {n : Nat} (hc : ∀ x, (c x).length = n) : ∀ (L : List α) (j : Nat) (u : Value), (L.flatMap c)[j]? = some u → ∃ x, L[j / n]? = some x ∧ (c x)[j % n]? = some u
  | [], j, u, h => by simp at h
  | x :: L, j, u, h => by
    rw [List.flatMap_cons] at h
    by_cases hj : j < n
    · rw [List.getElem?_append_left (by rw [hc]; exact hj)] at h
      refine ⟨x, ?_, by rw [Nat.mod_eq_of_lt hj]; exact h⟩
      rw [Nat.div_eq_of_lt hj]
      rfl
    · rw [List.getElem?_append_right (by rw [hc]; omega), hc] at h
      obtain ⟨y, h1, h2⟩ := flat_get hc L (j - n) u h
      have hn : 0 < n := by
        rcases Nat.eq_zero_or_pos n with h0 | h0
        · subst h0
          have := (List.getElem?_eq_some_iff.1 h2).1
          rw [hc] at this
          omega
        · exact h0
      have e1 : j / n = (j - n) / n + 1 := by
        rw [Nat.div_eq_sub_div hn (by omega)]
      have e2 : j % n = (j - n) % n := Nat.mod_eq_sub_mod (by omega)
      refine ⟨y, ?_, by rw [e2]; exact h2⟩
      rw [e1]
      exact h1
/-- Rows that lie somewhere, element by element, cell by cell. -/
theorem flat_cells {α : Type} {c : α → List Value} {n : Nat} (hc : ∀ x, (c x).length = n) {L : List α} {w : World} {b o : Nat} (h : ∀ i x, L[i]? = some x → ∀ k u, (c x)[k]? = some u → w.cell? ⟨b, o + i * n + k, none⟩ = some u) :
    ∀ j u, (L.flatMap c)[j]? = some u → w.cell? ((⟨b, o, none⟩ : Addr).add j) = some u := by
  intro j u hj
  obtain ⟨x, h1, h2⟩ := flat_get hc L j u hj
  have := h _ _ h1 _ _ h2
  rw [add_none]
  have e : o + j / n * n + j % n = o + j := by
    have := Nat.div_add_mod j n
    rw [Nat.mul_comm] at this
    omega
  rwa [e] at this
theorem flat_one {α : Type} {c : α → List Value} (h : ∀ x, ∀ u ∈ c x, u.oneCell' = true) (L : List α) : ∀ u ∈ L.flatMap c, u.oneCell' = true := by
  intro u hu
  obtain ⟨x, _, hx⟩ := List.mem_flatMap.1 hu
  exact h x u hx
section
variable {α : Type} {c : α → List Value} {z : List Value} {n : Nat} {P : Program} {t ty e : TypeId} (hc : ∀ x, (c x).length = n) (hz : z.length = n) (h1 : ∀ x, ∀ u ∈ c x, u.oneCell' = true)
end

-- ---- u64
end Go.Proofs.Ytfjfkaaflghaiaa

namespace Go.Proofs.Ytfjfkaaflghaiaa
open Go.RowKit

/-- It returns a value with new blocks. x is what is not known. -/
def NwL {α : Type} (V : α → Value) (New : α → List (Nat × Obj)) (I : α → Prop) (w : World) (e : Ending) (w' : World) : Prop :=
  ∃ x, I x ∧ e = .returned (V x) ∧ Keeps w w' ∧ (∀ p ∈ New x, w'.heap[p.1]? = some p.2 ∧ w.heap.size ≤ p.1) ∧ (New x).Pairwise fun p q => p.1 ≠ q.1
theorem run_nwl {X : Cx} {k : List KI} {st : St} (f : FuncId) (args : Array Value) (d : Option Tmp) {α : Type} (V : α → Value) (New : α → List (Nat × Obj)) (I : α → Prop) (h : headCall X.P X.N k st = some (f, args, d)) (ho : ∀ x, ∀ p ∈ New x, isDef p.2 = false) (hc : ∀ w, Kept X.M X.B w → Hp st.hp w → Calls X.P f args w (NwL V New I w))
    (hr : ∀ x, I x → (∀ p ∈ New x, X.B.heap.size ≤ p.1) → Run X (nextK k) ((⟨st.sl, New x ++ st.hp⟩ : St).put d (V x))) : Run X k st :=
  run_call f args d h V (fun x => New x ++ st.hp) (fun x => I x ∧ ∀ p ∈ New x, X.B.heap.size ≤ p.1) (fun w k1 k2 k3 => (hc w k1 k2).mono fun _ _ ⟨x, hx, he, hk, hn, hp⟩ => ⟨x, ⟨hx, fun p hp => Nat.le_trans k1.size (hn p hp).2⟩, he, .more k2 k3 hk hn hp⟩)
    (fun hnd x _ p hp => (List.mem_append.1 hp).elim (ho x p) (hnd p)) (fun x hx => hr x hx.1 hx.2)
/-- An append to a row of the call's own. -/
theorem run_appendB {X : Cx} {k : List KI} {st : St} {t ty e : TypeId} {i : TypeInfo} {z : Value} {size bytes : Nat} (ht : X.P.underlying t = some (.slice e)) (hi : X.P.info? e = some i) (hz : i.zero = some z) (hsize : i.size = size) (hby : i.bytes = bytes) (hzs : z.cells.size = size)
    (d : Option Tmp) (j g n cap : Nat) (xs sp : List Value) (a : Addr) (m c : Nat) (h : headSem X.N k st = some (appSem t ty (.slice (some ⟨g, 0, none⟩) n cap) (.slice (some a) m c), d)) (hj : st.hp[j]? = some (g, .cells (xs ++ sp).toArray e (0, 0))) (hxl : xs.length = n * size) (hcm : cap ≤ maxLen) (hcl : (xs ++ sp).length = cap * size)
    (news : List Value) (hl : news.length = m * size) (hnews : ∀ w, Kept X.M X.B w → Hp st.hp w → ∀ j u, news[j]? = some u → w.cell? (a.add j) = some u) (h1 : ∀ u ∈ news, u.oneCell' = true) (h63 : n + m ≤ maxLen) (hbytes : (n + m) * bytes ≤ 140737488355328)
    (hgB : X.B.heap.size ≤ g) (hr : ∀ g' cap' sp', X.B.heap.size ≤ g' → n + m ≤ cap' → cap' ≤ maxLen → (xs ++ news ++ sp').length = cap' * size → Run X (nextK k) ((⟨st.sl, (g', .cells (xs ++ news ++ sp').toArray e (0, 0)) :: st.hp.eraseIdx j⟩ : St).put d (.slice (some ⟨g', 0, none⟩) (n + m) cap'))) : Run X k st := by
  subst hsize
  subst hby
  intro a0 w g0
  refine head_at h g0 ?_
  have hg := (g0.hp _ (List.mem_of_getElem? hj)).1
  dsimp only at hg
  have hnw := hnews w g0.kp g0.Hp
  by_cases hroom : n + m ≤ cap
  · have hfit : n * i.size + news.length ≤ (xs ++ sp).toArray.size := by rw [hl, List.size_toArray, hcl, ← Nat.add_mul]; exact Nat.mul_le_mul_right _ hroom
    have hrun := run_append_room (P := X.P) w t ty e i ht hi g n cap _ hg a m c news hl hnw h1 hroom hfit
    unfold appSem
    simp only [Sem.run_bind, hrun, Result.andThen, Sem.run_pure]
    have e1 : (xs ++ sp).toArray.toList.take (n * i.size) ++ news ++ (xs ++ sp).toArray.toList.drop (n * i.size + news.length) = xs ++ news ++ sp.drop news.length := by
      rw [← hxl]
      simp
    rw [e1]
    have g1 := g0.setRow hj (xs ++ news ++ sp.drop news.length).toArray
    refine hr g cap _ hgB hroom hcm ?_ _ _ (G.put (g1.hpsub (hp' := (g, .cells (xs ++ news ++ sp.drop news.length).toArray e (0, 0)) :: st.hp.eraseIdx j) (fun p hp => ?_) (List.pairwise_cons.2 ⟨fun q hq => (erase_ne g0.ne hj hq : g ≠ q.1), g0.ne.sublist (List.eraseIdx_sublist _ _)⟩)) (headSem_dst h) _)
    · simp only [List.length_append, List.length_drop] at hcl hfit ⊢
      simp at hfit
      omega
    · rcases List.mem_cons.1 hp with rfl | hp
      · exact List.mem_of_getElem? (i := j) (by rw [List.getElem?_set]; simp [(List.getElem?_eq_some_iff.1 hj).1])
      · obtain ⟨q, hq, h2⟩ := List.mem_eraseIdx_iff_getElem?.1 hp
        exact List.mem_of_getElem? (i := q) (by rw [List.getElem?_set]; simp [Ne.symm hq, h2])
  · have holds : ∀ jj u, xs[jj]? = some u → w.cell? ((⟨g, 0, none⟩ : Addr).add jj) = some u := fun jj u hu => by
      rw [add_none, Nat.zero_add]
      refine cells_of_heap hg jj u ?_
      rw [List.getElem?_append_left (List.getElem?_eq_some_iff.1 hu).1]
      exact hu
    have hrun := run_append_grow (P := X.P) w t ty e i z ht hi hz ⟨g, 0, none⟩ n cap xs hxl holds a m c news hl hnw (by omega) (by simp only [maxLen] at h63; omega) (growslice_fits (by omega) hbytes)
    unfold appSem
    simp only [Sem.run_bind, hrun, Result.andThen, Sem.run_pure]
    have e1 : xs.toArray ++ news.toArray ++ Builtin.zeroCells z.cells (grownCap w (n + m) cap e - (n + m)) = (xs ++ news ++ (Builtin.zeroCells z.cells (grownCap w (n + m) cap e - (n + m))).toList).toArray := by simp
    rw [e1]
    have g1 := (g0.world (Keeps.refl w).drew).alloc (.cells (xs ++ news ++ (Builtin.zeroCells z.cells (grownCap w (n + m) cap e - (n + m))).toList).toArray e (0, 0)) rfl
    have hge := grownCap_ge w (n + m) cap e
    refine hr _ _ _ g0.kp.size hge (grownCap_le_maxLen w (n + m) cap e h63) ?_ _ _ (G.put (g1.hpsub (hp' := (w.heap.size, .cells (xs ++ news ++ (Builtin.zeroCells z.cells (grownCap w (n + m) cap e - (n + m))).toList).toArray e (0, 0)) :: st.hp.eraseIdx j) (fun p hp => ?_) ?_) (headSem_dst h) _)
    · simp only [List.length_append, Array.length_toList, size_zeroCells, hzs, hxl, hl, ← Nat.add_mul]
      congr 1
      omega
    · rcases List.mem_cons.1 hp with rfl | hp
      · exact List.mem_cons_self
      · exact List.mem_cons_of_mem _ (List.mem_of_mem_eraseIdx hp)
    · refine List.pairwise_cons.2 ⟨fun q hq => ?_, g0.ne.sublist (List.eraseIdx_sublist _ _)⟩
      have := (Array.getElem?_eq_some_iff.1 (g0.hp q (List.mem_of_mem_eraseIdx hq)).1).1
      exact Nat.ne_of_gt this
/-- An append to a slice that is nil. -/
theorem run_appendB_none {X : Cx} {k : List KI} {st : St} {t ty e : TypeId} {i : TypeInfo} {z : Value} {size bytes : Nat} (ht : X.P.underlying t = some (.slice e)) (hi : X.P.info? e = some i) (hz : i.zero = some z) (hsize : i.size = size) (hby : i.bytes = bytes) (hzs : z.cells.size = size)
    (d : Option Tmp) (a : Addr) (m c : Nat) (hm : 0 < m) (h : headSem X.N k st = some (appSem t ty (.slice none 0 0) (.slice (some a) m c), d))
    (news : List Value) (hl : news.length = m * size) (hnews : ∀ w, Kept X.M X.B w → Hp st.hp w → ∀ j u, news[j]? = some u → w.cell? (a.add j) = some u) (h63 : m ≤ maxLen) (hbytes : m * bytes ≤ 140737488355328)
    (hr : ∀ g' cap' sp', X.B.heap.size ≤ g' → m ≤ cap' → cap' ≤ maxLen → (news ++ sp').length = cap' * size → Run X (nextK k) ((⟨st.sl, (g', .cells (news ++ sp').toArray e (0, 0)) :: st.hp⟩ : St).put d (.slice (some ⟨g', 0, none⟩) m cap'))) : Run X k st := by
  subst hsize
  subst hby
  intro a0 w g0
  refine head_at h g0 ?_
  have hnw := hnews w g0.kp g0.Hp
  have hrun := run_append_nil (P := X.P) w t ty e i z ht hi hz a m c news hl hnw hm (by simp only [maxLen] at h63; omega) (by omega)
  unfold appSem
  simp only [Sem.run_bind, hrun, Result.andThen, Sem.run_pure]
  have e1 : news.toArray ++ Builtin.zeroCells z.cells (grownCap w m 0 e - m) = (news ++ (Builtin.zeroCells z.cells (grownCap w m 0 e - m)).toList).toArray := by simp
  rw [e1]
  have g1 := (g0.world (Keeps.refl w).drew).alloc (.cells (news ++ (Builtin.zeroCells z.cells (grownCap w m 0 e - m)).toList).toArray e (0, 0)) rfl
  have hge := grownCap_ge w m 0 e
  refine hr _ _ _ g0.kp.size hge (grownCap_le_maxLen w m 0 e h63) ?_ _ _ (g1.put (headSem_dst h) _)
  simp only [List.length_append, Array.length_toList, size_zeroCells, hzs, hl, ← Nat.add_mul]
  congr 1
  omega

theorem info_of {P : Program} {e : TypeId} {n : Nat} {z : Value} (hs : tySize P e = some n) (hz : tyZero P e = some z) : ∃ i, P.info? e = some i ∧ i.zero = some z ∧ i.size = n ∧ i.bytes = tyBytes P e := by
  unfold tySize at hs
  unfold tyZero at hz
  unfold tyBytes
  cases hi : P.info? e with
  | none => rw [hi] at hs; cases hs
  | some i =>
    rw [hi] at hs hz
    exact ⟨i, rfl, hz, by injection hs, rfl⟩
section
variable {α : Type} {X : Cx} {k : List KI} {st : St} {t ty e : TypeId} {n : Nat} {z : Value} (ht : X.P.underlying t = some (.slice e)) (hs : tySize X.P e = some n) (hz : tyZero X.P e = some z) (hzn : z.cells.size = n) (hby : Nat.ble (tyBytes X.P e) 1000 = true) (c : α → List Value) (hc : ∀ x, (c x).length = n) (h1 : ∀ x, ∀ u ∈ c x, u.oneCell' = true)
include ht hs hz hzn hby hc h1
/-- Elements of which those are that lie at a, behind a row of the call's own. -/
theorem run_app (d : Option Tmp) (j g len m cap c' : Nat) (L M : List α) (sp : List Value) (a : Addr) (hll : L.length = len) (hml : M.length = m) (h : headSem X.N k st = some (appSem t ty (.slice (some ⟨g, 0, none⟩) len cap) (.slice (some a) m c'), d)) (hj : st.hp[j]? = some (g, .cells (L.flatMap c ++ sp).toArray e (0, 0))) (hcm : cap ≤ maxLen) (hcl : (L.flatMap c ++ sp).length = cap * n)
    (hnews : ∀ w, Kept X.M X.B w → Hp st.hp w → ∀ j u, (M.flatMap c)[j]? = some u → w.cell? (a.add j) = some u) (h63 : len + m ≤ 1000000) (hgB : X.B.heap.size ≤ g)
    (hr : ∀ g' cap' sp', X.B.heap.size ≤ g' → len + m ≤ cap' → cap' ≤ maxLen → ((L ++ M).flatMap c ++ sp').length = cap' * n → Run X (nextK k) ((⟨st.sl, (g', .cells ((L ++ M).flatMap c ++ sp').toArray e (0, 0)) :: st.hp.eraseIdx j⟩ : St).put d (.slice (some ⟨g', 0, none⟩) (len + m) cap'))) : Run X k st := by
  obtain ⟨i, hi, hiz, his, hib⟩ := info_of hs hz
  have hb := Nat.le_of_ble_eq_true hby
  refine run_appendB (X := X) ht hi hiz his hib hzn d j g len cap (L.flatMap c) sp a m c' h hj (by rw [flat_len hc, hll]) hcm hcl (M.flatMap c) (by rw [flat_len hc, hml]) hnews (flat_one h1 M) (by simp only [maxLen]; omega) (Nat.le_trans (Nat.mul_le_mul h63 hb) (by omega)) hgB fun g' cap' sp' q1 q2 q3 q4 => ?_
  rw [← List.flatMap_append] at q4 ⊢
  exact hr g' cap' sp' q1 q2 q3 q4
omit h1 in
theorem run_app_none (d : Option Tmp) (m c' : Nat) (M : List α) (a : Addr) (hml : M.length = m) (hm : 0 < m) (h : headSem X.N k st = some (appSem t ty (.slice none 0 0) (.slice (some a) m c'), d))
    (hnews : ∀ w, Kept X.M X.B w → Hp st.hp w → ∀ j u, (M.flatMap c)[j]? = some u → w.cell? (a.add j) = some u) (h63 : m ≤ 1000000)
    (hr : ∀ g' cap' sp', X.B.heap.size ≤ g' → m ≤ cap' → cap' ≤ maxLen → (M.flatMap c ++ sp').length = cap' * n → Run X (nextK k) ((⟨st.sl, (g', .cells (M.flatMap c ++ sp').toArray e (0, 0)) :: st.hp⟩ : St).put d (.slice (some ⟨g', 0, none⟩) m cap'))) : Run X k st := by
  obtain ⟨i, hi, hiz, his, hib⟩ := info_of hs hz
  have hb := Nat.le_of_ble_eq_true hby
  exact run_appendB_none (X := X) ht hi hiz his hib hzn d a m c' hm h (M.flatMap c) (by rw [flat_len hc, hml]) hnews (by simp only [maxLen]; omega) (Nat.le_trans (Nat.mul_le_mul h63 hb) (by omega)) hr
end
section
variable {α : Type} {X : Cx} {k : List KI} {st : St} {t ty e : TypeId} {n : Nat} {z : Value} (ht : X.P.underlying t = some (.slice e)) (hs : tySize X.P e = some n) (hz : tyZero X.P e = some z) (hzn : z.cells.size = n) (hby : Nat.ble (tyBytes X.P e) 1000 = true) (c : α → List Value) (hc : ∀ x, (c x).length = n) (h1 : ∀ x, ∀ u ∈ c x, u.oneCell' = true)
include ht hs hz hzn hby hc h1
end
/-- The same with the value written out. -/
theorem tri_callV {R : Rg} {X : Cx} {k : List KI} {i : Nat} (V : (Nat → Nat) → Value) (hv : ∀ β, R.v i β = V β) (f : FuncId) (args : (Nat → Nat) → Array Value) (hn : (R.p i).news = []) (h : ∀ β extra, headCall X.P X.N [.ops R.ops [i]] ⟨R.ns i β ++ extra, R.nh i β⟩ = some (f, args β, R.dst i)) (ho : ∀ β, R.oh i β = R.nh i β) (hc : ∀ β w, Kept X.M X.B w → Hp (R.nh i β) w → Calls X.P f (args β) w (Ret (V β) w)) : R.Tri X k i :=
  tri_call f args hn h ho (fun β w k1 h1 => by rw [hv β]; exact hc β w k1 h1)
theorem tri_vV {R : Rg} {X : Cx} {k : List KI} {i : Nat} (V : (Nat → Nat) → Value) (hv : ∀ β, R.v i β = V β) (s : (Nat → Nat) → Sem Next) (hn : (R.p i).news = []) (h : ∀ β extra, headSem X.N [.ops R.ops [i]] ⟨R.ns i β ++ extra, R.nh i β⟩ = some (s β, R.dst i)) (ho : ∀ β, R.oh i β = R.nh i β) (hq : ∀ β w, Kept X.M X.B w → Hp (R.nh i β) w → (s β).run X.P w = .ok (.value (V β)) w) : R.Tri X k i :=
  tri_v s hn h ho (fun β w k1 h1 => by rw [hv β]; exact hq β w k1 h1)
end Go.Proofs.Ytfjfkaaflghaiaa

namespace Go.Proofs.Ytfjfkaaflghaiaa
open Go.RowKit

structure TriW (R : Rg) (X : Cx) (k : List KI) (i : Nat) : Prop where
  go : R.Tri X k i
theorem allB_go {R : Rg} {X : Cx} {k : List KI} : ∀ {n : Nat}, AllB n (TriW R X k) → AllB n fun i => R.Tri X k i
  | 0, h => h
  | _ + 1, h => ⟨allB_go h.1, h.2.go⟩
theorem drawW {X : Cx} {k : List KI} {st : St} (n : Nat) (pl : List Stp) (A : List (List Nat)) (hm : X.P.follows .mixedOrders = true) (hk : isDraw' k = true) (hn : (drawOps k).size = n) (hok : Rg.ok ⟨drawOps k, st, pl, A⟩ X.N = true) (ks hk' : List Nat) (hd : distinct hk' = true)
    (T : AllB n (TriW ⟨drawOps k, st, pl, A⟩ X k.tail)) (S : (Nat → Nat) → St) (hS : ∀ β, Rg.fin ⟨drawOps k, st, pl, A⟩ β ks hk' = S β) (hr : ∀ β, Run X k.tail (S β)) : Run X k st :=
  draw n pl A hm hk hn hok ks hk' hd (allB_go T) S hS hr
section
variable {R : Rg} {X : Cx} {k : List KI} {i : Nat}
theorem tri_quietW (ov : (Nat → Nat) → List (Nat × Value)) (hs hk : List Nat) (e : (Nat → Nat) → List (Value × Value)) (hn : (R.p i).news = []) (h : ∀ β extra, quietOut X.P X.N (ov β) hs hk R.ops i ⟨R.ns i β ++ extra, R.nh i β⟩ = some (⟨putL (R.dst i) (R.v i β) (R.ns i β ++ extra), R.oh i β⟩, e β)) (hd : distinct hk = true) (he : ∀ β, EqAll (e β)) : TriW R X k i := ⟨tri_quiet ov hs hk e hn h hd he⟩
theorem tri_newW (nid : Nat) (O : (Nat → Nat) → Obj) (V : (Nat → Nat) → Nat → Value) (hk : List Nat) (hn : (R.p i).news = [nid]) (h : ∀ β extra b, headNew X.P X.N b [.ops R.ops [i]] ⟨R.ns i β ++ extra, R.nh i β⟩ = some (O β, V β b, R.dst i)) (hd : distinct hk = true) (hv : ∀ β b, R.v i (updB β nid b) = V β b) (ho : ∀ β b, (hk.filterMap fun j => ((b, O β) :: R.nh i β)[j]?) = R.oh i (updB β nid b)) (hb : ∀ β b, R.nm (updB β nid b) nid = b) : TriW R X k i := ⟨tri_new nid O V hk hn h hd hv ho hb⟩
theorem tri_voidW (h : ∀ β, ∃ b l, R.nh i β = (b, .deferred none) :: l) : TriW R X k i := ⟨tri_void h⟩
theorem tri_panicsW {fn : Func} {S : Ending → World → Prop} (hQ : X.Q = bodyPostM Fence.wide 2 X.P fn S) (hlo : X.B.heap.size ≤ X.lo) (f : FuncId) (args : (Nat → Nat) → Array Value) (c : List PanicEntry) (h : ∀ β extra, headCall X.P X.N [.ops R.ops [i]] ⟨R.ns i β ++ extra, R.nh i β⟩ = some (f, args β, R.dst i))
    (hc : ∀ β w, Kept X.M X.B w → Hp (R.nh i β) w → Calls X.P f (args β) w fun e w' => e = .panicked c ∧ Keeps w w') (hS : ∀ w, Kept X.M X.B w → S (.panicked c) w) : TriW R X k i := ⟨tri_panics hQ hlo f args c h hc hS⟩
theorem tri_nwW (nid : Nat) (V : (Nat → Nat) → Nat → Value) (O : (Nat → Nat) → Obj) (f : FuncId) (args : (Nat → Nat) → Array Value) (hn : (R.p i).news = [nid]) (h : ∀ β extra, headCall X.P X.N [.ops R.ops [i]] ⟨R.ns i β ++ extra, R.nh i β⟩ = some (f, args β, R.dst i)) (hO : ∀ β, isDef (O β) = false) (hv : ∀ β b, R.v i (updB β nid b) = V β b) (ho : ∀ β b, R.oh i (updB β nid b) = (b, O β) :: R.nh i β) (hb : ∀ β b, R.nm (updB β nid b) nid = b)
    (hc : ∀ β w, Kept X.M X.B w → Hp (R.nh i β) w → Calls X.P f (args β) w (Nw (α := Unit) (fun _ b => V β b) (fun _ => O β) (fun _ => True) w)) : TriW R X k i := ⟨tri_nw nid V O f args hn h hO hv ho hb hc⟩
theorem tri_callVW (V : (Nat → Nat) → Value) (hv : ∀ β, R.v i β = V β) (f : FuncId) (args : (Nat → Nat) → Array Value) (hn : (R.p i).news = []) (h : ∀ β extra, headCall X.P X.N [.ops R.ops [i]] ⟨R.ns i β ++ extra, R.nh i β⟩ = some (f, args β, R.dst i)) (ho : ∀ β, R.oh i β = R.nh i β) (hc : ∀ β w, Kept X.M X.B w → Hp (R.nh i β) w → Calls X.P f (args β) w (Ret (V β) w)) : TriW R X k i := ⟨tri_callV V hv f args hn h ho hc⟩
theorem tri_vVW (V : (Nat → Nat) → Value) (hv : ∀ β, R.v i β = V β) (s : (Nat → Nat) → Sem Next) (hn : (R.p i).news = []) (h : ∀ β extra, headSem X.N [.ops R.ops [i]] ⟨R.ns i β ++ extra, R.nh i β⟩ = some (s β, R.dst i)) (ho : ∀ β, R.oh i β = R.nh i β) (hq : ∀ β w, Kept X.M X.B w → Hp (R.nh i β) w → (s β).run X.P w = .ok (.value (V β)) w) : TriW R X k i := ⟨tri_vV V hv s hn h ho hq⟩
end
end Go.Proofs.Ytfjfkaaflghaiaa

namespace Go.Proofs.Ytfjfkaaflghaiaa
open Go.RowKit

section
variable {α : Type} {c : α → List Value} {n : Nat} {P : Program} {t : TypeId} (hc : ∀ x, (c x).length = n)
include hc
omit hc in
theorem flat_at {L : List α} {sp : List Value} {i : Nat} (hi : i < L.length) : L.flatMap c ++ sp = (L.take i).flatMap c ++ (c L[i] ++ ((L.drop (i + 1)).flatMap c ++ sp)) := by
  conv => lhs; rw [← List.take_append_drop i L, List.drop_eq_getElem_cons hi, List.flatMap_append, List.flatMap_cons]
  simp only [List.append_assoc]
theorem flat_head {L : List α} {i : Nat} (hi : i < L.length) : ((L.take i).flatMap c).length = i * n := by rw [flat_len hc, List.length_take, Nat.min_eq_left (Nat.le_of_lt hi)]
theorem flat_drop {L : List α} {sp : List Value} {i : Nat} (hi : i < L.length) : (L.flatMap c ++ sp).drop (i * n) = c L[i] ++ ((L.drop (i + 1)).flatMap c ++ sp) := by
  have hh := flat_head hc hi
  rw [flat_at hi, List.drop_append_of_le_length (by omega), List.drop_of_length_le (by omega), List.nil_append]
theorem flat_le {L : List α} {sp : List Value} {i : Nat} (hi : i < L.length) : i * n + n ≤ (L.flatMap c ++ sp).length := by
  have hh := flat_head hc hi
  rw [flat_at hi, List.length_append, List.length_append, hh, hc]
  omega
/-- A cell of an element. -/
theorem flat_loadF (ha : tyAgg P t = some false) {L : List α} {sp : List Value} {i k : Nat} {v : Value} (hi : i < L.length) (hk : (c L[i])[k]? = some v) {off : Nat} (ho : off = i * n + k) : loadV P t (L.flatMap c ++ sp) off = some v := by
  subst ho
  unfold loadV
  rw [ha]
  dsimp only
  rw [← List.getElem?_drop, flat_drop hc hi, List.getElem?_append_left (List.getElem?_eq_some_iff.1 hk).1]
  exact hk
end
/-- What is the same behind several ways is gone through once. -/
theorem run_join {X : Cx} {k : List KI} {st : St} (f : List KI → List KI) (st' : St) (h1 : Run X (f k) st') (h2 : Run X (f k) st' → Run X k st) : Run X k st := h2 h1
theorem run_eqK {X : Cx} {k k' : List KI} {st : St} (h : k = k') (hr : Run X k' st) : Run X k st := h ▸ hr
end Go.Proofs.Ytfjfkaaflghaiaa

namespace Go.Proofs.Ytfjfkaaflghaiaa
open Go.RowKit

theorem tri_wr {R : Rg} {X : Cx} {k : List KI} {i : Nat} (b : (Nat → Nat) → Nat) (o o' : (Nat → Nat) → Obj) (r : (Nat → Nat) → List (Nat × Obj)) (V : (Nat → Nat) → Value) (f : FuncId) (args : (Nat → Nat) → Array Value) (hn : (R.p i).news = []) (h : ∀ β extra, headCall X.P X.N [.ops R.ops [i]] ⟨R.ns i β ++ extra, R.nh i β⟩ = some (f, args β, R.dst i))
    (hh : ∀ β, R.nh i β = (b β, o β) :: r β) (ho : ∀ β, R.oh i β = (b β, o' β) :: r β) (hv : ∀ β, R.v i β = V β) (hd : ∀ β, isDef (o' β) = false) (hc : ∀ β w, Kept X.M X.B w → Hp (R.nh i β) w → Calls X.P f (args β) w (Wr (b β) (V β) (o' β) w)) : R.Tri X k i := by
  intro β w J extra hkp hm hJ
  have key : headCall X.P X.N [.ops R.ops [i], .lp J] ⟨R.ns i β ++ extra, R.nh i β⟩ = some (f, args β, R.dst i) := h β extra
  refine run_wr (X := Xw X k w (R.nh i β)) f (args β) (R.dst i) (V β) 0 (b β) (o β) (o' β) key (by rw [hh]; rfl) (hd β) (fun w1 k1 k2 => hc β w1 (hkp.trans k1 fun b hb ⟨o, ho⟩ => hm _ ho hb) k2) (nx_ok (k' := [.lp J]) rfl fun a' w' g => hJ β (fun _ _ => rfl) (fun id hid => by rw [hn] at hid; cases hid) (by rw [hn]; exact List.Pairwise.nil) a' w' ?_)
  rw [putL_put] at g
  rw [ho, hv]
  have g2 := g
  rw [show (⟨R.ns i β ++ extra, R.nh i β⟩ : St).hp.set 0 (b β, o' β) = (b β, o' β) :: r β from by rw [hh]; rfl] at g2
  exact g2
theorem tri_wrW {R : Rg} {X : Cx} {k : List KI} {i : Nat} (b : (Nat → Nat) → Nat) (o o' : (Nat → Nat) → Obj) (r : (Nat → Nat) → List (Nat × Obj)) (V : (Nat → Nat) → Value) (f : FuncId) (args : (Nat → Nat) → Array Value) (hn : (R.p i).news = []) (h : ∀ β extra, headCall X.P X.N [.ops R.ops [i]] ⟨R.ns i β ++ extra, R.nh i β⟩ = some (f, args β, R.dst i))
    (hh : ∀ β, R.nh i β = (b β, o β) :: r β) (ho : ∀ β, R.oh i β = (b β, o' β) :: r β) (hv : ∀ β, R.v i β = V β) (hd : ∀ β, isDef (o' β) = false) (hc : ∀ β w, Kept X.M X.B w → Hp (R.nh i β) w → Calls X.P f (args β) w (Wr (b β) (V β) (o' β) w)) : TriW R X k i := ⟨tri_wr b o o' r V f args hn h hh ho hv hd hc⟩
end Go.Proofs.Ytfjfkaaflghaiaa

namespace Go.Proofs.Ytfjfkaaflghaiaa
open Go.RowKit

/-- How much a row that has grown can hold, by a number. -/
def capN (l x : Nat) : Nat := min (l + x) maxLen
theorem capN_is {l c : Nat} (h1 : l ≤ c) (h2 : c ≤ maxLen) : capN l (c - l) = c := by unfold capN; omega
theorem capN_ge {l : Nat} (h : l ≤ maxLen) (x : Nat) : l ≤ capN l x := by unfold capN; omega
theorem capN_le (l x : Nat) : capN l x ≤ maxLen := by unfold capN; omega
/-- What lies behind the row's end. -/
def spareN (z : Value) (l x : Nat) : List Value := (Builtin.zeroCells z.cells (capN l x - l)).toList
theorem spareN_len (z : Value) {l : Nat} (h : l ≤ maxLen) (x : Nat) {n : Nat} (hz : z.cells.size = n) {xs : List Value} (hx : xs.length = l * n) : (xs ++ spareN z l x).length = capN l x * n := by
  have := capN_ge h x
  unfold spareN
  simp only [List.length_append, Array.length_toList, size_zeroCells, hz, hx, ← Nat.add_mul]
  congr 1
  omega
section
variable {X : Cx} {k : List KI} {st : St} {t ty e : TypeId} {i : TypeInfo} {z : Value} {size bytes : Nat} (ht : X.P.underlying t = some (.slice e)) (hi : X.P.info? e = some i) (hz : i.zero = some z) (hsize : i.size = size) (hby : i.bytes = bytes) (hzs : z.cells.size = size)
include ht hi hsize in
theorem run_roomR (d : Option Tmp) (j g n cap : Nat) (c0 : List Value) (a : Addr) (m c : Nat) (h : headSem X.N k st = some (appSem t ty (.slice (some ⟨g, 0, none⟩) n cap) (.slice (some a) m c), d)) (hj : st.hp[j]? = some (g, .cells c0.toArray e (0, 0))) (hcl : c0.length = cap * size)
    (news : List Value) (hl : news.length = m * size) (hnews : ∀ w, Kept X.M X.B w → Hp st.hp w → ∀ j u, news[j]? = some u → w.cell? (a.add j) = some u) (h1 : ∀ u ∈ news, u.oneCell' = true) (hroom : n + m ≤ cap)
    (c1 : List Value) (hc1 : c0.take (n * size) ++ news ++ c0.drop (n * size + news.length) = c1)
    (hr : Run X (nextK k) ((⟨st.sl, st.hp.set j (g, .cells c1.toArray e (0, 0))⟩ : St).put d (.slice (some ⟨g, 0, none⟩) (n + m) cap))) : Run X k st := by
  subst hsize
  intro a0 w g0
  refine head_at h g0 ?_
  have hg := (g0.hp _ (List.mem_of_getElem? hj)).1
  dsimp only at hg
  have hnw := hnews w g0.kp g0.Hp
  have hfit : n * i.size + news.length ≤ c0.toArray.size := by rw [hl, List.size_toArray, hcl, ← Nat.add_mul]; exact Nat.mul_le_mul_right _ hroom
  have hrun := run_append_room (P := X.P) w t ty e i ht hi g n cap _ hg a m c news hl hnw h1 hroom hfit
  unfold appSem
  simp only [Sem.run_bind, hrun, Result.andThen, Sem.run_pure]
  rw [show c0.toArray.toList.take (n * i.size) ++ news ++ c0.toArray.toList.drop (n * i.size + news.length) = c1 from hc1]
  exact hr _ _ ((g0.setRow hj c1.toArray).put (headSem_dst h) _)
include ht hi hz hsize hby hzs
theorem run_growR (d : Option Tmp) (j g n cap : Nat) (xs sp : List Value) (a : Addr) (m c : Nat) (h : headSem X.N k st = some (appSem t ty (.slice (some ⟨g, 0, none⟩) n cap) (.slice (some a) m c), d)) (hj : st.hp[j]? = some (g, .cells (xs ++ sp).toArray e (0, 0))) (hxl : xs.length = n * size)
    (news : List Value) (hl : news.length = m * size) (hnews : ∀ w, Kept X.M X.B w → Hp st.hp w → ∀ j u, news[j]? = some u → w.cell? (a.add j) = some u) (h63 : n + m ≤ maxLen) (hbytes : (n + m) * bytes ≤ 140737488355328) (hgrow : cap < n + m)
    (hr : ∀ g' x, X.B.heap.size ≤ g' → Run X (nextK k) ((⟨st.sl, (g', .cells (xs ++ news ++ spareN z (n + m) x).toArray e (0, 0)) :: st.hp⟩ : St).put d (.slice (some ⟨g', 0, none⟩) (n + m) (capN (n + m) x)))) : Run X k st := by
  subst hsize
  subst hby
  intro a0 w g0
  refine head_at h g0 ?_
  have hg := (g0.hp _ (List.mem_of_getElem? hj)).1
  dsimp only at hg
  have hnw := hnews w g0.kp g0.Hp
  have holds : ∀ jj u, xs[jj]? = some u → w.cell? ((⟨g, 0, none⟩ : Addr).add jj) = some u := fun jj u hu => by
    rw [add_none, Nat.zero_add]
    refine cells_of_heap hg jj u ?_
    rw [List.getElem?_append_left (List.getElem?_eq_some_iff.1 hu).1]
    exact hu
  have hrun := run_append_grow (P := X.P) w t ty e i z ht hi hz ⟨g, 0, none⟩ n cap xs hxl holds a m c news hl hnw (by omega) (by simp only [maxLen] at h63; omega) (growslice_fits (by omega) hbytes)
  unfold appSem
  simp only [Sem.run_bind, hrun, Result.andThen, Sem.run_pure]
  have hge := grownCap_ge w (n + m) cap e
  have hr2 := hr w.heap.size (grownCap w (n + m) cap e - (n + m)) g0.kp.size
  unfold spareN at hr2
  rw [capN_is hge (grownCap_le_maxLen w (n + m) cap e h63)] at hr2
  have e1 : xs.toArray ++ news.toArray ++ Builtin.zeroCells z.cells (grownCap w (n + m) cap e - (n + m)) = (xs ++ news ++ (Builtin.zeroCells z.cells (grownCap w (n + m) cap e - (n + m))).toList).toArray := by simp
  rw [e1]
  exact hr2 _ _ (((g0.world (Keeps.refl w).drew).alloc (.cells (xs ++ news ++ (Builtin.zeroCells z.cells (grownCap w (n + m) cap e - (n + m))).toList).toArray e (0, 0)) rfl).put (headSem_dst h) _)
theorem run_growR_none (d : Option Tmp) (a : Addr) (m c : Nat) (hm : 0 < m) (h : headSem X.N k st = some (appSem t ty (.slice none 0 0) (.slice (some a) m c), d))
    (news : List Value) (hl : news.length = m * size) (hnews : ∀ w, Kept X.M X.B w → Hp st.hp w → ∀ j u, news[j]? = some u → w.cell? (a.add j) = some u) (h63 : m ≤ maxLen) (hbytes : m * bytes ≤ 140737488355328)
    (hr : ∀ g' x, X.B.heap.size ≤ g' → Run X (nextK k) ((⟨st.sl, (g', .cells (news ++ spareN z m x).toArray e (0, 0)) :: st.hp⟩ : St).put d (.slice (some ⟨g', 0, none⟩) m (capN m x)))) : Run X k st := by
  subst hsize
  subst hby
  intro a0 w g0
  refine head_at h g0 ?_
  have hnw := hnews w g0.kp g0.Hp
  have hrun := run_append_nil (P := X.P) w t ty e i z ht hi hz a m c news hl hnw hm (by simp only [maxLen] at h63; omega) (by omega)
  unfold appSem
  simp only [Sem.run_bind, hrun, Result.andThen, Sem.run_pure]
  have hge := grownCap_ge w m 0 e
  have hr2 := hr w.heap.size (grownCap w m 0 e - m) g0.kp.size
  unfold spareN at hr2
  rw [capN_is hge (grownCap_le_maxLen w m 0 e h63)] at hr2
  have e1 : news.toArray ++ Builtin.zeroCells z.cells (grownCap w m 0 e - m) = (news ++ (Builtin.zeroCells z.cells (grownCap w m 0 e - m)).toList).toArray := by simp
  rw [e1]
  exact hr2 _ _ (((g0.world (Keeps.refl w).drew).alloc (.cells (news ++ (Builtin.zeroCells z.cells (grownCap w m 0 e - m)).toList).toArray e (0, 0)) rfl).put (headSem_dst h) _)
end
/-- A new block and a number. -/
def upd2 (β : Nat → Nat) (nid num b x : Nat) : Nat → Nat := updB (updB β nid b) num x
section
variable {R : Rg} {X : Cx} {k : List KI} {i : Nat}
theorem tri_two (nid num : Nat) (hne : (nid == num) = false) (hnum : numB num = true) (V : (Nat → Nat) → Nat → Nat → Value) (O : (Nat → Nat) → Nat → Obj) (hn : (R.p i).news = [nid, num]) (hv : ∀ β b x, R.v i (upd2 β nid num b x) = V β b x) (ho : ∀ β b x, R.oh i (upd2 β nid num b x) = (b, O β x) :: R.nh i β) (hb : ∀ β b x, R.nm (upd2 β nid num b x) nid = b)
    (hrun : ∀ β w J extra, Kept X.M X.B w → (∀ p ∈ R.nh i β, p.1 < X.B.heap.size → X.M p.1) → (∀ b x, w.heap.size ≤ b → Run (Xw X k w (R.nh i β)) (nextK [.ops R.ops [i], .lp J]) ((⟨R.ns i β ++ extra, (b, O β x) :: R.nh i β⟩ : St).put (R.dst i) (V β b x))) → Run (Xw X k w (R.nh i β)) [.ops R.ops [i], .lp J] ⟨R.ns i β ++ extra, R.nh i β⟩) : R.Tri X k i := by
  intro β w J extra hkp hm hJ
  refine hrun β w J extra hkp hm fun b x hbb => nx_ok (k' := [.lp J]) rfl fun a' w' g => hJ (upd2 β nid num b x) (fun id hid => ?_) (fun id hid hnb => ?_) ?_ a' w' ?_
  · rw [hn] at hid
    rw [List.mem_cons, List.mem_singleton, not_or] at hid
    have h1 : (id == nid) = false := by simpa using hid.1
    have h2 : (id == num) = false := by simpa using hid.2
    unfold upd2 updB
    rw [h1, h2]
    rfl
  · rw [hn] at hid
    rcases List.mem_cons.1 hid with rfl | hid
    · rw [hb]; exact .inl hbb
    · rcases List.mem_cons.1 hid with rfl | hid
      · rw [hnum] at hnb; cases hnb
      · cases hid
  · rw [hn]
    have : ([nid, num].filter fun id => !numB id) = [nid].filter fun id => !numB id := by
      rw [List.filter_cons, List.filter_cons, List.filter_cons, List.filter_nil, hnum]
      rfl
    rw [this]
    exact one_pw _ _ nid
  · rw [putL_put] at g
    rw [hv, ho]
    exact g
end
end Go.Proofs.Ytfjfkaaflghaiaa

namespace Go.Proofs.Ytfjfkaaflghaiaa
open Go.RowKit

section
variable {α : Type} {R : Rg} {X : Cx} {k : List KI} {i : Nat} {t ty e : TypeId} {n : Nat} {z : Value} (ht : X.P.underlying t = some (.slice e)) (hs : tySize X.P e = some n) (hz : tyZero X.P e = some z) (hzn : z.cells.size = n) (hby : Nat.ble (tyBytes X.P e) 1000 = true) (c : α → List Value) (hc : ∀ x, (c x).length = n)
include ht hs hz hzn hby hc
theorem tri_grow (nid num : Nat) (hne : (nid == num) = false) (hnum : numB num = true) (g : (Nat → Nat) → Nat) (a : (Nat → Nat) → Addr) (len m cap c' : Nat) (L M : List α) (sp : List Value) (hll : L.length = len) (hml : M.length = m) (h63 : len + m ≤ 1000000) (hgrow : cap < len + m) (hn : (R.p i).news = [nid, num])
    (h : ∀ β extra, headSem X.N [.ops R.ops [i]] ⟨R.ns i β ++ extra, R.nh i β⟩ = some (appSem t ty (.slice (some ⟨g β, 0, none⟩) len cap) (.slice (some (a β)) m c'), R.dst i)) (hj : ∀ β, (R.nh i β)[0]? = some (g β, .cells (L.flatMap c ++ sp).toArray e (0, 0)))
    (hv : ∀ β b x, R.v i (upd2 β nid num b x) = .slice (some ⟨b, 0, none⟩) (len + m) (capN (len + m) x)) (ho : ∀ β b x, R.oh i (upd2 β nid num b x) = (b, .cells ((L ++ M).flatMap c ++ spareN z (len + m) x).toArray e (0, 0)) :: R.nh i β) (hb : ∀ β b x, R.nm (upd2 β nid num b x) nid = b)
    (hq : ∀ β w1, Kept X.M X.B w1 → Hp (R.nh i β) w1 → ∀ j u, (M.flatMap c)[j]? = some u → w1.cell? ((a β).add j) = some u) : R.Tri X k i := by
  obtain ⟨ti, hi, hiz, his, hib⟩ := info_of hs hz
  have hbl := Nat.le_of_ble_eq_true hby
  refine tri_two nid num hne hnum (fun _ b x => .slice (some ⟨b, 0, none⟩) (len + m) (capN (len + m) x)) (fun _ x => .cells ((L ++ M).flatMap c ++ spareN z (len + m) x).toArray e (0, 0)) hn hv ho hb fun β w J extra hkp hm hK => ?_
  have key : headSem X.N [.ops R.ops [i], .lp J] ⟨R.ns i β ++ extra, R.nh i β⟩ = some (appSem t ty (.slice (some ⟨g β, 0, none⟩) len cap) (.slice (some (a β)) m c'), R.dst i) := h β extra
  refine run_growR (X := Xw X k w (R.nh i β)) ht hi hiz his hib hzn (R.dst i) 0 (g β) len cap (L.flatMap c) sp (a β) m c' key (hj β) (by rw [flat_len hc, hll]) (M.flatMap c) (by rw [flat_len hc, hml]) (fun w1 k1 k2 => hq β w1 (hkp.trans k1 fun b hb ⟨o, ho⟩ => hm _ ho hb) k2) (by simp only [maxLen]; omega) (Nat.le_trans (Nat.mul_le_mul h63 hbl) (by omega)) hgrow fun g' x q1 => ?_
  have := hK g' x q1
  rw [List.flatMap_append] at this
  exact this
theorem tri_grow_none (nid num : Nat) (hne : (nid == num) = false) (hnum : numB num = true) (a : (Nat → Nat) → Addr) (m c' : Nat) (M : List α) (hml : M.length = m) (hm0 : 0 < m) (h63 : m ≤ 1000000) (hn : (R.p i).news = [nid, num])
    (h : ∀ β extra, headSem X.N [.ops R.ops [i]] ⟨R.ns i β ++ extra, R.nh i β⟩ = some (appSem t ty (.slice none 0 0) (.slice (some (a β)) m c'), R.dst i))
    (hv : ∀ β b x, R.v i (upd2 β nid num b x) = .slice (some ⟨b, 0, none⟩) m (capN m x)) (ho : ∀ β b x, R.oh i (upd2 β nid num b x) = (b, .cells (M.flatMap c ++ spareN z m x).toArray e (0, 0)) :: R.nh i β) (hb : ∀ β b x, R.nm (upd2 β nid num b x) nid = b)
    (hq : ∀ β w1, Kept X.M X.B w1 → Hp (R.nh i β) w1 → ∀ j u, (M.flatMap c)[j]? = some u → w1.cell? ((a β).add j) = some u) : R.Tri X k i := by
  obtain ⟨ti, hi, hiz, his, hib⟩ := info_of hs hz
  have hbl := Nat.le_of_ble_eq_true hby
  refine tri_two nid num hne hnum (fun _ b x => .slice (some ⟨b, 0, none⟩) m (capN m x)) (fun _ x => .cells (M.flatMap c ++ spareN z m x).toArray e (0, 0)) hn hv ho hb fun β w J extra hkp hm hK => ?_
  have key : headSem X.N [.ops R.ops [i], .lp J] ⟨R.ns i β ++ extra, R.nh i β⟩ = some (appSem t ty (.slice none 0 0) (.slice (some (a β)) m c'), R.dst i) := h β extra
  exact run_growR_none (X := Xw X k w (R.nh i β)) ht hi hiz his hib hzn (R.dst i) (a β) m c' hm0 key (M.flatMap c) (by rw [flat_len hc, hml]) (fun w1 k1 k2 => hq β w1 (hkp.trans k1 fun b hb ⟨o, ho⟩ => hm _ ho hb) k2) (by simp only [maxLen]; omega) (Nat.le_trans (Nat.mul_le_mul h63 hbl) (by omega)) fun g' x q1 => hK g' x q1
omit hzn hby in
theorem tri_room (h1 : ∀ x, ∀ u ∈ c x, u.oneCell' = true) (g : (Nat → Nat) → Nat) (a : (Nat → Nat) → Addr) (r : (Nat → Nat) → List (Nat × Obj)) (len m cap c' : Nat) (L M : List α) (sp : List Value) (hll : L.length = len) (hml : M.length = m) (hcl : (L.flatMap c ++ sp).length = cap * n) (hroom : len + m ≤ cap) (hn : (R.p i).news = [])
    (h : ∀ β extra, headSem X.N [.ops R.ops [i]] ⟨R.ns i β ++ extra, R.nh i β⟩ = some (appSem t ty (.slice (some ⟨g β, 0, none⟩) len cap) (.slice (some (a β)) m c'), R.dst i)) (hj : ∀ β, R.nh i β = (g β, .cells (L.flatMap c ++ sp).toArray e (0, 0)) :: r β)
    (hv : ∀ β, R.v i β = .slice (some ⟨g β, 0, none⟩) (len + m) cap) (ho : ∀ β, R.oh i β = (g β, .cells ((L ++ M).flatMap c ++ sp.drop (m * n)).toArray e (0, 0)) :: r β)
    (hq : ∀ β w1, Kept X.M X.B w1 → Hp (R.nh i β) w1 → ∀ j u, (M.flatMap c)[j]? = some u → w1.cell? ((a β).add j) = some u) : R.Tri X k i := by
  obtain ⟨ti, hi, hiz, his, hib⟩ := info_of hs hz
  have f1 : (L.flatMap c).length = len * n := by rw [flat_len hc, hll]
  have f2 : (M.flatMap c).length = m * n := by rw [flat_len hc, hml]
  intro β w J extra hkp hm hJ
  have key : headSem X.N [.ops R.ops [i], .lp J] ⟨R.ns i β ++ extra, R.nh i β⟩ = some (appSem t ty (.slice (some ⟨g β, 0, none⟩) len cap) (.slice (some (a β)) m c'), R.dst i) := h β extra
  refine run_roomR (X := Xw X k w (R.nh i β)) ht hi his (R.dst i) 0 (g β) len cap (L.flatMap c ++ sp) (a β) m c' key (by rw [hj]; rfl) hcl (M.flatMap c) f2 (fun w1 k1 k2 => hq β w1 (hkp.trans k1 fun b hb ⟨o, ho⟩ => hm _ ho hb) k2) (flat_one h1 M) hroom ((L ++ M).flatMap c ++ sp.drop (m * n)) ?_ (nx_ok (k' := [.lp J]) rfl fun a' w' g0 => hJ β (fun _ _ => rfl) (fun id hid => by rw [hn] at hid; cases hid) (by rw [hn]; exact List.Pairwise.nil) a' w' ?_)
  · rw [f2, ← f1, List.take_left, ← List.drop_drop, List.drop_left, List.flatMap_append]
  · rw [putL_put] at g0
    rw [hv, ho]
    rw [show (⟨R.ns i β ++ extra, R.nh i β⟩ : St).hp.set 0 (g β, .cells ((L ++ M).flatMap c ++ sp.drop (m * n)).toArray e (0, 0)) = (g β, .cells ((L ++ M).flatMap c ++ sp.drop (m * n)).toArray e (0, 0)) :: r β from by rw [hj]; rfl] at g0
    exact g0
theorem tri_growW (nid num : Nat) (hne : (nid == num) = false) (hnum : numB num = true) (g : (Nat → Nat) → Nat) (a : (Nat → Nat) → Addr) (len m cap c' : Nat) (L M : List α) (sp : List Value) (hll : L.length = len) (hml : M.length = m) (h63 : len + m ≤ 1000000) (hgrow : cap < len + m) (hn : (R.p i).news = [nid, num])
    (h : ∀ β extra, headSem X.N [.ops R.ops [i]] ⟨R.ns i β ++ extra, R.nh i β⟩ = some (appSem t ty (.slice (some ⟨g β, 0, none⟩) len cap) (.slice (some (a β)) m c'), R.dst i)) (hj : ∀ β, (R.nh i β)[0]? = some (g β, .cells (L.flatMap c ++ sp).toArray e (0, 0)))
    (hv : ∀ β b x, R.v i (upd2 β nid num b x) = .slice (some ⟨b, 0, none⟩) (len + m) (capN (len + m) x)) (ho : ∀ β b x, R.oh i (upd2 β nid num b x) = (b, .cells ((L ++ M).flatMap c ++ spareN z (len + m) x).toArray e (0, 0)) :: R.nh i β) (hb : ∀ β b x, R.nm (upd2 β nid num b x) nid = b)
    (hq : ∀ β w1, Kept X.M X.B w1 → Hp (R.nh i β) w1 → ∀ j u, (M.flatMap c)[j]? = some u → w1.cell? ((a β).add j) = some u) : TriW R X k i := ⟨tri_grow ht hs hz hzn hby c hc nid num hne hnum g a len m cap c' L M sp hll hml h63 hgrow hn h hj hv ho hb hq⟩
theorem tri_grow_noneW (nid num : Nat) (hne : (nid == num) = false) (hnum : numB num = true) (a : (Nat → Nat) → Addr) (m c' : Nat) (M : List α) (hml : M.length = m) (hm0 : 0 < m) (h63 : m ≤ 1000000) (hn : (R.p i).news = [nid, num])
    (h : ∀ β extra, headSem X.N [.ops R.ops [i]] ⟨R.ns i β ++ extra, R.nh i β⟩ = some (appSem t ty (.slice none 0 0) (.slice (some (a β)) m c'), R.dst i))
    (hv : ∀ β b x, R.v i (upd2 β nid num b x) = .slice (some ⟨b, 0, none⟩) m (capN m x)) (ho : ∀ β b x, R.oh i (upd2 β nid num b x) = (b, .cells (M.flatMap c ++ spareN z m x).toArray e (0, 0)) :: R.nh i β) (hb : ∀ β b x, R.nm (upd2 β nid num b x) nid = b)
    (hq : ∀ β w1, Kept X.M X.B w1 → Hp (R.nh i β) w1 → ∀ j u, (M.flatMap c)[j]? = some u → w1.cell? ((a β).add j) = some u) : TriW R X k i := ⟨tri_grow_none ht hs hz hzn hby c hc nid num hne hnum a m c' M hml hm0 h63 hn h hv ho hb hq⟩
omit hzn hby in
theorem tri_roomW (h1 : ∀ x, ∀ u ∈ c x, u.oneCell' = true) (g : (Nat → Nat) → Nat) (a : (Nat → Nat) → Addr) (r : (Nat → Nat) → List (Nat × Obj)) (len m cap c' : Nat) (L M : List α) (sp : List Value) (hll : L.length = len) (hml : M.length = m) (hcl : (L.flatMap c ++ sp).length = cap * n) (hroom : len + m ≤ cap) (hn : (R.p i).news = [])
    (h : ∀ β extra, headSem X.N [.ops R.ops [i]] ⟨R.ns i β ++ extra, R.nh i β⟩ = some (appSem t ty (.slice (some ⟨g β, 0, none⟩) len cap) (.slice (some (a β)) m c'), R.dst i)) (hj : ∀ β, R.nh i β = (g β, .cells (L.flatMap c ++ sp).toArray e (0, 0)) :: r β)
    (hv : ∀ β, R.v i β = .slice (some ⟨g β, 0, none⟩) (len + m) cap) (ho : ∀ β, R.oh i β = (g β, .cells ((L ++ M).flatMap c ++ sp.drop (m * n)).toArray e (0, 0)) :: r β)
    (hq : ∀ β w1, Kept X.M X.B w1 → Hp (R.nh i β) w1 → ∀ j u, (M.flatMap c)[j]? = some u → w1.cell? ((a β).add j) = some u) : TriW R X k i := ⟨tri_room ht hs hz c hc h1 g a r len m cap c' L M sp hll hml hcl hroom hn h hj hv ho hq⟩
end
theorem room_len {α : Type} {c : α → List Value} {n : Nat} (hc : ∀ x, (c x).length = n) {L M : List α} {sp : List Value} {len m cap : Nat} (hll : L.length = len) (hml : M.length = m) (hcl : (L.flatMap c ++ sp).length = cap * n) (hroom : len + m ≤ cap) : ((L ++ M).flatMap c ++ sp.drop (m * n)).length = cap * n := by
  have f1 : (L.flatMap c).length = len * n := by rw [flat_len hc, hll]
  have f2 : (M.flatMap c).length = m * n := by rw [flat_len hc, hml]
  have h := Nat.mul_le_mul_right n hroom
  rw [Nat.add_mul] at h
  simp only [List.flatMap_append, List.length_append, List.length_drop, f1, f2] at hcl ⊢
  omega
theorem grow_len {α : Type} {c : α → List Value} {n : Nat} (hc : ∀ x, (c x).length = n) {L : List α} {l : Nat} (hl : L.length = l) (h : l ≤ maxLen) (z : Value) (hz : z.cells.size = n) (x : Nat) : (L.flatMap c ++ spareN z l x).length = capN l x * n := spareN_len z h x hz (by rw [flat_len hc, hl])
/-- A block of the call's own that is not the one that it may write to is new. -/
theorem run_ge {X : Cx} {k : List KI} {st : St} (j j0 b ba : Nat) {o o0 : Obj} (hj : st.hp[j]? = some (b, o)) (hj0 : st.hp[j0]? = some (ba, o0)) (hne : j ≠ j0) (hM : ∀ x, X.M x → x = ba) (hr : X.B.heap.size ≤ b → Run X k st) : Run X k st := by
  intro a w g
  refine hr ?_ a w g
  have h1 := (g.hp _ (List.mem_of_getElem? hj)).2
  rcases Nat.lt_or_ge b X.B.heap.size with hlt | hge
  · exact absurd (hM _ (h1 hlt)) (pairwise_ne g.ne hj hj0 hne)
  · exact hge
end Go.Proofs.Ytfjfkaaflghaiaa

namespace Go.Proofs.Ytfjfkaaflghaiaa
open Go.RowKit

/-- It returns a value with new blocks, and the block b has turned into O. -/
def NwW {α : Type} (V : α → Value) (New : α → List (Nat × Obj)) (b : Nat) (O : α → Obj) (I : α → Prop) (w : World) (e : Ending) (w' : World) : Prop :=
  ∃ x, I x ∧ e = .returned (V x) ∧ Kept (fun k => k = b) w w' ∧ w'.heap[b]? = some (O x) ∧ (∀ p ∈ New x, w'.heap[p.1]? = some p.2 ∧ w.heap.size ≤ p.1) ∧ (New x).Pairwise fun p q => p.1 ≠ q.1
theorem run_nww {X : Cx} {k : List KI} {st : St} (f : FuncId) (args : Array Value) (d : Option Tmp) {α : Type} (V : α → Value) (New : α → List (Nat × Obj)) (j b : Nat) (o : Obj) (O : α → Obj) (I : α → Prop) (h : headCall X.P X.N k st = some (f, args, d)) (hj : st.hp[j]? = some (b, o)) (hO : ∀ x, isDef (O x) = false) (ho : ∀ x, ∀ p ∈ New x, isDef p.2 = false) (hc : ∀ w, Kept X.M X.B w → Hp st.hp w → Calls X.P f args w (NwW V New b O I w))
    (hr : ∀ x, I x → (∀ p ∈ New x, X.B.heap.size ≤ p.1) → Run X (nextK k) ((⟨st.sl, New x ++ st.hp.set j (b, O x)⟩ : St).put d (V x))) : Run X k st := by
  refine run_call f args d h V (fun x => New x ++ st.hp.set j (b, O x)) (fun x => I x ∧ ∀ p ∈ New x, X.B.heap.size ≤ p.1) (fun w k1 k2 k3 => (hc w k1 k2).mono fun e w' ⟨x, hx, he, hk, hb, hn, hp⟩ => ⟨x, ⟨hx, fun p hp => Nat.le_trans k1.size (hn p hp).2⟩, he, ?_⟩) (fun hnd x _ p hp => ?_) (fun x hx => hr x hx.1 hx.2)
  · refine ⟨hk.mono fun x hx => ⟨o, hx ▸ List.mem_of_getElem? hj⟩, fun p hpm => ?_, ?_⟩
    · rcases List.mem_append.1 hpm with hpm | hpm
      · exact ⟨(hn p hpm).1, .inr (hn p hpm).2⟩
      · obtain ⟨i, hi⟩ := List.mem_iff_getElem?.1 hpm
        rw [List.getElem?_set] at hi
        split at hi
        · split at hi
          · injection hi with hi
            subst hi
            exact ⟨hb, .inl ⟨o, List.mem_of_getElem? hj⟩⟩
          · cases hi
        · rename_i hne
          have hpp := k2 p (List.mem_of_getElem? hi)
          exact ⟨(hk.block p.1 (Array.getElem?_eq_some_iff.1 hpp).1 (pairwise_ne k3 hi hj (Ne.symm hne))).trans hpp, .inl ⟨p.2, List.mem_of_getElem? hi⟩⟩
    · refine List.pairwise_append.2 ⟨hp, pairwise_set k3 hj, fun p hpm q hqm => ?_⟩
      have h1 := (hn p hpm).2
      have h2 : q.1 < w.heap.size := by
        obtain ⟨i, hi⟩ := List.mem_iff_getElem?.1 hqm
        rw [List.getElem?_set] at hi
        split at hi
        · split at hi
          · injection hi with hi
            subst hi
            exact (Array.getElem?_eq_some_iff.1 (k2 _ (List.mem_of_getElem? hj))).1
          · cases hi
        · exact (Array.getElem?_eq_some_iff.1 (k2 q (List.mem_of_getElem? hi))).1
      omega
  · rcases List.mem_append.1 hp with hp | hp
    · exact ho x p hp
    · rcases List.mem_or_eq_of_mem_set hp with hp | rfl
      · exact hnd p hp
      · exact hO x
end Go.Proofs.Ytfjfkaaflghaiaa

namespace Go.Proofs.Ytfjfkaaflghaiaa
open Go.RowKit Go.ChangeMaps

section
variable {α : Type} [DecidableEq α] (kv vv : α → Value)
def memEnt (x : α × Nat) : MapEntry := { key := kv x.1, val := vv x.1, born := x.2 }
def memE (L : List α) : Array MapEntry := (L.zipIdx.map (memEnt kv vv)).toArray
/-- The map that has what the function gives of each of L. -/
def memO (L : List α) : Obj := .map (memE kv vv L) L.length
variable {kv vv} {P : Program} {kt : TypeId}
theorem findAsking_mem (heq : ∀ a b w, (Op.equal kt (kv a) (kv b)).run P w = .ok (decide (a = b)) w) (x : α) (w : World) : ∀ (L : List α) (o i : Nat), ∃ j, (Instr.findAsking kt (kv x) ((L.zipIdx o).map (memEnt kv vv)) i).run P w = .ok (if x ∈ L then some (j, vv x) else none) w
  | [], o, i => ⟨0, rfl⟩
  | y :: L, o, i => by
    obtain ⟨j, h1⟩ := findAsking_mem heq x w L (o + 1) (i + 1)
    rw [List.zipIdx_cons, List.map_cons]
    by_cases e : x = y
    · subst e
      refine ⟨i, ?_⟩
      unfold Instr.findAsking
      have h := heq x x w
      simp only [Sem.run_bind, show (memEnt kv vv (x, o)).key = kv x from rfl, h, Result.andThen]
      simp [Sem.run_pure, memEnt]
    · refine ⟨j, ?_⟩
      unfold Instr.findAsking
      have h := heq x y w
      simp only [Sem.run_bind, show (memEnt kv vv (y, o)).key = kv y from rfl, h, Result.andThen]
      simp [e, h1]
theorem findKey_mem (hk : isStructT P kt = true) (heq : ∀ a b w, (Op.equal kt (kv a) (kv b)).run P w = .ok (decide (a = b)) w) (x : α) (L : List α) (w : World) : ∃ j, (Instr.findKey kt (kv x) (memE kv vv L).toList).run P w = .ok (if x ∈ L then some (j, vv x) else none) w := by
  obtain ⟨fs, hk⟩ := isStructT_is hk
  obtain ⟨j, h⟩ := findAsking_mem (vv := vv) heq x w L 0 0
  have hu : (Go.underlying kt).run P w = .ok (.struct fs) w := by simp [Go.underlying, program, hk, Sem.run, bind, Sem.bind, pure]
  refine ⟨j, ?_⟩
  unfold Instr.findKey memE
  simp only [Sem.run_bind, hu, Result.andThen]
  cases L with
  | nil => rfl
  | cons y L =>
    have : Instr.findNow (.struct fs) (kv x) (((y :: L).zipIdx.map (memEnt kv vv)).toArray.toList) 0 = none := rfl
    rw [this]
    exact h
/-- Has it been kept, and what was? -/
theorem look_mem {w : World} {t et : TypeId} {b : Nat} {L : List α} {z : Value} (ht : P.underlying t = some (.map kt et)) (hk : isStructT P kt = true) (heq : ∀ a b w, (Op.equal kt (kv a) (kv b)).run P w = .ok (decide (a = b)) w) (hck : ∀ e x w, (Instr.checkKey e 10000 kt (kv x)).run P w = .ok () w) (hz : ∀ w, (zeroValue et).run P w = .ok z w) (hb : w.heap[b]? = some (memO kv vv L)) (x : α) :
    (Instr.lookup t (.map (some b)) (kv x) true >>= fun v => pure (Next.value v)).run P w = .ok (.value (.tuple #[if x ∈ L then vv x else z, .bool (decide (x ∈ L))])) w := by
  obtain ⟨j, h1⟩ := findKey_mem (vv := vv) hk heq x L w
  have hu : (Go.underlying t).run P w = .ok (.map kt et) w := by simp [Go.underlying, program, ht, Sem.run, bind, Sem.bind, pure]
  have hg : (getObj b).run P w = .ok (.map (memE kv vv L) L.length) w := by
    have hb' : w.heap[b]? = some (.map (memE kv vv L) L.length) := hb
    simp [getObj, Sem.run, hb']
  unfold Instr.lookup
  simp only [Sem.run_bind, hu, Result.andThen, hg, Sem.run_pure, hck, h1]
  by_cases hx : x ∈ L
  · simp [hx]
  · simp [hx, hz]
omit [DecidableEq α] in
theorem memE_push (L : List α) (x : α) : (memE kv vv L).push { key := kv x, val := vv x, born := L.length } = memE kv vv (L ++ [x]) := by
  unfold memE
  rw [List.zipIdx_append, List.map_append]
  simp [memEnt]
/-- A key that has not been kept is. -/
theorem run_mem {X : Cx} {k : List KI} {st : St} (j b : Nat) (t et : TypeId) (L : List α) (x : α) (h : headSem X.N k st = some ((do Instr.mapUpdate t (.map (some b)) (kv x) (vv x); pure .skip), none)) (ht : X.P.underlying t = some (.map kt et)) (hk : isStructT X.P kt = true) (hj : st.hp[j]? = some (b, memO kv vv L)) (hck : ∀ e x w, (Instr.checkKey e 10000 kt (kv x)).run X.P w = .ok () w) (heq : ∀ a b w, (Op.equal kt (kv a) (kv b)).run X.P w = .ok (decide (a = b)) w) (hx : x ∉ L)
    (hr : Run X (nextK k) ⟨st.sl, st.hp.set j (b, memO kv vv (L ++ [x]))⟩) : Run X k st := by
  refine run_mapNew j b t kt et (memE kv vv L) L.length (kv x) (vv x) h ht hk hj (fun w => hck _ _ w) (fun e he w => ?_) ?_
  · unfold memE at he
    simp only [List.mem_map] at he
    obtain ⟨y, hy, rfl⟩ := he
    have hm : y.1 ∈ L := by
      obtain ⟨i, hi⟩ := List.mem_iff_getElem?.1 hy
      rw [List.getElem?_zipIdx] at hi
      cases h3 : L[i]? with
      | none => rw [h3] at hi; simp at hi
      | some v =>
        rw [h3] at hi
        simp at hi
        rw [← hi]
        exact List.mem_of_getElem? h3
    rw [show (memEnt kv vv y).key = kv y.1 from rfl, heq]
    rw [decide_eq_false (show ¬ x = y.1 from fun e => hx (by rw [e]; exact hm))]
  · rw [memE_push]
    have : memO kv vv (L ++ [x]) = .map (memE kv vv (L ++ [x])) (L.length + 1) := by unfold memO; rw [List.length_append]; rfl
    rw [← this]
    exact hr
end
end Go.Proofs.Ytfjfkaaflghaiaa

namespace Go.Proofs.Ytfjfkaaflghaiaa
open Go.RowKit

section
variable {R : Rg} {X : Cx}
def Rg.chain (R : Rg) (m : Nat) : Bool := (List.range R.n).all fun i => Nat.blt i m || (List.range i).all fun j => (R.an i).contains j
theorem Rg.chain_is {m : Nat} (h : R.chain m = true) {i : Nat} (hi : i < R.n) (hm : m ≤ i) {j : Nat} (hj : j < i) : j ∈ R.an i := by
  have h1 := List.all_eq_true.1 h i (List.mem_range.2 hi)
  rw [Bool.or_eq_true] at h1
  rcases h1 with h1 | h1
  · have : i < m := Nat.le_of_ble_eq_true h1
    omega
  · have := List.all_eq_true.1 h1 j (List.mem_range.2 hj)
    simpa using this
theorem ready_is {R : Rg} {L : Array Bool} (hL : L.size = R.n) {i : Nat} (hm : i ∈ Region.ready .any R.ops L) : i < R.n ∧ L.getD i true = false ∧ Dn L i = false ∧ ∀ d ∈ R.deps i, Dn L d = true := by
  obtain ⟨h0, o, ho, hal⟩ := mem_ready.1 hm
  have hi : i < R.n := (Array.getElem?_eq_some_iff.1 ho).1
  have hiL : i < L.size := by rw [hL]; exact hi
  refine ⟨hi, h0, ?_, fun d hd => ?_⟩
  · unfold Dn
    simp [Array.getD_eq_getD_getElem?, hiL] at h0 ⊢
    exact h0
  · obtain ⟨e, he, hb, rfl⟩ := deps_of ho hd
    exact hal e he hb
theorem none_ready (h : R.ok X.N = true) : ∀ (L : Array Bool), L.size = R.n → R.Down (Dn L) → Region.ready .any R.ops L = [] → ∀ i, i < R.n → Dn L i = true := by
    intro L hL hS hr i
    induction i using Nat.strongRecOn with
    | _ i ih =>
      intro hi
      cases hs : Dn L i with
      | true => rfl
      | false =>
        exfalso
        have hio : i < R.ops.size := hi
        have hm : i ∈ Region.ready .any R.ops L := by
          rw [mem_ready]
          have hlt : i < L.size := by rw [hL]; exact hi
          refine ⟨by unfold Dn at hs; simp [Array.getD_eq_getD_getElem?, hlt] at hs ⊢; exact hs, R.ops[i], by simp [hio], fun e he hb => ?_⟩
          have hd : e.on ∈ R.deps i := by
            unfold Rg.deps
            rw [Array.getElem?_eq_getElem hio]
            exact List.mem_map.2 ⟨e, List.mem_filter.2 ⟨Array.mem_toList_iff.2 he, hb⟩, rfl⟩
          have hlt := (R.fit h hi).deps _ hd
          exact ih _ hlt (Nat.lt_trans hlt hi)
        rw [hr] at hm
        cases hm

theorem rg_tail (h : R.ok X.N = true) {m : Nat} (hc : R.chain m = true) {Q : Exit → Act → World → Prop} : ∀ (d i fuel : Nat) (L : Array Bool) (a : Act) (w : World), i + d = R.n → d ≤ fuel → m ≤ i → L.size = R.n → (∀ j, j < R.n → Dn L j = decide (j < i)) → wpOpsIn X.F X.n X.P R.ops Q (List.range' i d) a w → wpAnyIn X.F X.n X.P .any R.ops Q fuel L a w
  | 0, i, fuel, L, a, w, hid, hf, hmi, hL, hD, hw => by
    have hrr : Region.ready .any R.ops L = [] := by
      rw [List.eq_nil_iff_forall_not_mem]
      intro j hj
      obtain ⟨h1, _, h2, _⟩ := ready_is hL hj
      rw [hD j h1] at h2
      have := of_decide_eq_false h2
      omega
    have hq : Q .normal a w := hw
    cases fuel with
    | zero => exact ⟨hrr, hq⟩
    | succ fuel => exact ⟨fun _ => hq, fun j hj => by rw [hrr] at hj; cases hj⟩
  | d + 1, i, fuel, L, a, w, hid, hf, hmi, hL, hD, hw => by
    obtain ⟨fuel, rfl⟩ : ∃ f, fuel = f + 1 := ⟨fuel - 1, by omega⟩
    have hS : R.Down (Dn L) := fun j hj hs e he => by
      rw [hD j hj] at hs
      have h1 := of_decide_eq_true hs
      have h2 := (R.fit h hj).deps e he
      rw [hD e (by omega)]
      exact decide_eq_true (by omega)
    refine ⟨fun hr => ?_, fun j hj => ?_⟩
    · have := none_ready h L hL hS hr i (by omega)
      rw [hD i (by omega)] at this
      have := of_decide_eq_true this
      omega
    · obtain ⟨h1, h0, h2, h3⟩ := ready_is hL hj
      have hji : j = i := by
        rw [hD j h1] at h2
        have h4 := of_decide_eq_false h2
        by_cases e : j = i
        · exact e
        · have h5 := R.anc h hS j h1 h3 i (Rg.chain_is hc h1 (by omega) (by omega))
          rw [hD i (by omega)] at h5
          have := of_decide_eq_true h5
          omega
      subst hji
      rw [List.range'_succ, wpOpsIn_cons] at hw
      refine wpOpIn_mono (fun a' w' hk => ?_) hw
      refine rg_tail h hc d (j + 1) fuel _ a' w' (by omega) (by omega) (by omega) (by simpa using hL) (fun q hq => ?_) hk
      rw [Dn_set (by rw [hL]; exact h1), hD q hq]
      by_cases e : q = j
      · subst e
        simp
      · have : (q == j) = false := by simpa using e
        rw [this, Bool.false_or]
        exact decide_eq_decide.2 (by omega)
theorem count_le : ∀ {l : List Bool} {m : Nat}, (∀ i, m ≤ i → l[i]? ≠ some true) → l.count true ≤ m
  | [], m, _ => by simp
  | b :: l, 0, h => by
    have h1 := h 0 (Nat.le_refl _)
    have h2 := count_le (l := l) (m := 0) fun i _ => by have := h (i + 1) (Nat.zero_le _); simpa using this
    cases b
    · rw [List.count_cons]
      simpa using h2
    · simp at h1
  | b :: l, m + 1, h => by
    have h2 := count_le (l := l) (m := m) fun i hi => by have := h (i + 1) (by omega); simpa using this
    rw [List.count_cons]
    split <;> omega
theorem rg_cut (h : R.ok X.N = true) {m : Nat} (hm : m ≤ R.n) (hc : R.chain m = true) {k : List KI} (T : ∀ i, i < m → R.Tri X k i) (hend : ∀ (L : Array Bool) a w β, (∀ i, i < R.n → Dn L i = decide (i < m)) → R.Inv X L a w β → wpOpsIn X.F X.n X.P R.ops (wpK X k) (List.range' m (R.n - m)) a w) :
    ∀ (fuel : Nat) (L : Array Bool) (a : Act) (w : World) (β : Nat → Nat), L.size = R.n → L.toList.count true + fuel = R.n → R.Down (Dn L) → (∀ j, j < R.n → m ≤ j → Dn L j = false) → R.Inv X L a w β → wpAnyIn X.F X.n X.P .any R.ops (wpK X k) fuel L a w := by
  have tail : ∀ (fuel : Nat) (L : Array Bool) (a : Act) (w : World) (β : Nat → Nat), L.size = R.n → L.toList.count true + fuel = R.n → (∀ j, j < R.n → m ≤ j → Dn L j = false) → (∀ j, j < m → Dn L j = true) → R.Inv X L a w β → wpAnyIn X.F X.n X.P .any R.ops (wpK X k) fuel L a w := by
    intro fuel L a w β hL hcnt hhi hlo inv
    have hD : ∀ i, i < R.n → Dn L i = decide (i < m) := fun i hi => by
      by_cases e : i < m
      · rw [hlo i e, decide_eq_true e]
      · rw [hhi i hi (by omega), decide_eq_false e]
    have h1 : L.toList.count true ≤ m := count_le fun i hi he => by
      have hil : i < L.size := by
        have := (List.getElem?_eq_some_iff.1 he).1
        simpa using this
      have h2 := hhi i (by omega) hi
      unfold Dn at h2
      rw [Array.getElem?_toList] at he
      rw [Array.getD_eq_getD_getElem?, he] at h2
      cases h2
    exact rg_tail h hc (R.n - m) m fuel L a w (by omega) (by omega) (Nat.le_refl _) hL hD (hend L a w β hD inv)
  intro fuel
  induction fuel with
  | zero =>
    intro L a w β hL hcnt hS hhi inv
    refine tail 0 L a w β hL hcnt hhi (fun j hj => ?_) inv
    have hc2 : L.toList.count true = L.toList.length := by rw [Array.length_toList, hL]; simpa using hcnt
    have hjL : j < L.size := by omega
    have := List.count_eq_length.1 hc2 (L[j]) (Array.mem_toList_iff.2 (Array.getElem_mem hjL))
    unfold Dn
    simp [Array.getD_eq_getD_getElem?, hjL, ← this]
  | succ fuel ih =>
    intro L a w β hL hcnt hS hhi inv
    by_cases hlo : ∀ j, j < m → Dn L j = true
    · exact tail (fuel + 1) L a w β hL hcnt hhi hlo inv
    refine ⟨fun hr => absurd (fun j hj => none_ready h L hL hS hr j (by omega)) hlo, fun i hi => ?_⟩
    obtain ⟨h1, h0, h2, h3⟩ := ready_is hL hi
    have him : i < m := by
      by_cases e : i < m
      · exact e
      · exact absurd (fun j hj => R.anc h hS i h1 h3 j (Rg.chain_is hc h1 (by omega) (by omega))) hlo
    have hiL : i < L.size := by rw [hL]; exact h1
    have hset := Dn_set hiL
    refine rg_step h hL hS inv h1 h2 h3 (T i him) fun a' w' β' inv' => ih _ a' w' β' (by simpa using hL) (by rw [count_set hiL h0]; omega) (fun j hj hs d hdj => ?_) (fun j hj hmj => ?_) inv'
    · rw [hset] at hs ⊢
      simp only [Bool.or_eq_true, beq_iff_eq] at hs ⊢
      rcases hs with rfl | hs
      · exact .inr (h3 d hdj)
      · exact .inr (hS j hj hs d hdj)
    · rw [hset, hhi j hj hmj]
      have : (j == i) = false := by rw [beq_eq_false_iff_ne]; omega
      rw [this]
      rfl
/-- What there is when the first m are done. -/
def Rg.fin2 (R : Rg) (m : Nat) (β : Nat → Nat) (ks hk : List Nat) : St := ⟨ks.filterMap fun t => (R.sAt (fun j => Nat.blt j m) t β).map fun v => (t, v), hk.filterMap fun id => (R.hAt (fun j => Nat.blt j m) id β).map fun o => (R.nm β id, o)⟩
theorem blt_is {L : Array Bool} {m : Nat} (hl : ∀ i, i < R.n → Dn L i = decide (i < m)) {i : Nat} (hi : i < R.n) : Nat.blt i m = Dn L i := by
  rw [hl i hi]
  by_cases e : i < m
  · rw [decide_eq_true e]
    exact Nat.ble_eq_true_of_le e
  · rw [decide_eq_false e]
    cases h : Nat.blt i m with
    | false => rfl
    | true => exact absurd (Nat.le_of_ble_eq_true h) e
theorem sAt_cut {L : Array Bool} {m : Nat} (hl : ∀ i, i < R.n → Dn L i = decide (i < m)) (t : Nat) (β : Nat → Nat) : R.sAt (fun j => Nat.blt j m) t β = R.sAt (Dn L) t β := by
  unfold Rg.sAt
  cases hw : R.wr t with
  | none => rfl
  | some j =>
    dsimp only
    simp only [blt_is hl (wr_is hw).1]
theorem hAt_cut {L : Array Bool} {m : Nat} (hl : ∀ i, i < R.n → Dn L i = decide (i < m)) (id : Nat) (β : Nat → Nat) : R.hAt (fun j => Nat.blt j m) id β = R.hAt (Dn L) id β := by
  unfold Rg.hAt Rg.hAt0
  rw [tk_cong (S := fun j => Nat.blt j m) (S' := Dn L) (fun i hi => blt_is hl hi), show (R.hwr id).filter (fun j => Nat.blt j m) = (R.hwr id).filter (Dn L) from List.filter_congr fun j hj => blt_is hl (Rg.hwr_lt hj)]
def upTo (m d : Nat) : List Nat := match d with
  | 0 => []
  | d + 1 => m :: upTo (m + 1) d
theorem upTo_is : ∀ (d m : Nat), List.range' m d = upTo m d
  | 0, _ => rfl
  | d + 1, m => by rw [List.range'_succ, upTo_is d]; rfl
/-- A region that draws its order, as the texts use it: m in any order, d more behind them. -/
theorem draw_cut {k : List KI} {st : St} (m d : Nat) (pl : List Stp) (A : List (List Nat)) (hm : X.P.follows .mixedOrders = true) (hk : isDraw' k = true) (hn : (drawOps k).size = m + d) (hok : Rg.ok ⟨drawOps k, st, pl, A⟩ X.N = true) (hc : Rg.chain ⟨drawOps k, st, pl, A⟩ m = true) (ks hk' : List Nat) (hd : distinct hk' = true)
    (T : AllB m (TriW ⟨drawOps k, st, pl, A⟩ X k.tail)) (S : (Nat → Nat) → St) (hS : ∀ β, Rg.fin2 ⟨drawOps k, st, pl, A⟩ m β ks hk' = S β) (hr : ∀ β, Run X (.ops (drawOps k) (upTo m d) :: k.tail) (S β)) : Run X k st := by
  have hr0 : ∀ β, Run X (.ops (drawOps k) (upTo m d) :: k.tail) (Rg.fin2 ⟨drawOps k, st, pl, A⟩ m β ks hk') := fun β => by rw [hS β]; exact hr β
  clear hr hS
  have hkk : ∃ id, k = .code (.region id (drawOps k) true) :: k.tail := by
    unfold isDraw' at hk
    split at hk
    · exact ⟨_, rfl⟩
    · cases hk
  obtain ⟨id0, hkk⟩ := hkk
  have hTT := allB_go T
  intro a w g
  rw [hkk]
  show (Code.region id0 (drawOps k) true).wpIn X.F X.n X.P (wpK X k.tail) a w
  refine wpIn_region_any hm ?_
  have gd : ∀ i, Dn (Array.replicate (drawOps k).size false) i = false := fun i => by
    unfold Dn
    rw [Array.getD_eq_getD_getElem?]
    by_cases hi : i < (drawOps k).size
    · simp [hi]
    · simp [hi]
  have k1' : Keeps w { w with drawn := w.drawn + 1 } := (Keeps.refl w).drew
  have g1 := g.world k1'
  have hnn : Rg.n ⟨drawOps k, st, pl, A⟩ = m + d := hn
  refine rg_cut (R := ⟨(drawOps k), st, pl, A⟩) hok (m := m) (by omega) hc (fun i hi => allB hTT i hi) (fun L a w β hl inv => ?_) _ _ _ _ (fun _ => 0) (by simp [Rg.n]) ?_ (fun j _ hj => by rw [gd] at hj; cases hj) (fun j _ _ => gd j) ⟨g1.df, g1.ex.J, g1.ex.n0, fun id hs => ?_, fun id o ho => ?_, g1.sz, fun t v hv => ?_, fun id o ho => ?_, fun id id' h1 h2 hne => ?_, g1.kp⟩
  · rw [hnn, show m + d - m = d by omega, upTo_is]
    refine hr0 β a w ⟨inv.df, inv.sz, fun t v ht => inv.sl t v ?_, fun p hp => ?_, ?_, fun p hp => ?_, inv.kp, ⟨inv.ej, fun p hp => ?_, inv.en⟩⟩
    · rw [← sAt_cut hl]
      exact look_fm ht
    · obtain ⟨id, _, h3⟩ := List.mem_filterMap.1 hp
      cases ho : Rg.hAt ⟨(drawOps k), st, pl, A⟩ (fun j => Nat.blt j m) id β with
      | none => rw [ho] at h3; cases h3
      | some o =>
        rw [ho] at h3
        injection h3 with h3
        subst h3
        rw [hAt_cut hl] at ho
        exact inv.hp id o ho
    · refine fm_pairwise (fun id id' h1 h2 hne => ?_) (distinct_ok hd)
      rw [hAt_cut hl] at h1 h2
      exact inv.inj id id' h1 h2 hne
    · obtain ⟨id, _, h3⟩ := List.mem_filterMap.1 hp
      cases ho : Rg.hAt ⟨(drawOps k), st, pl, A⟩ (fun j => Nat.blt j m) id β with
      | none => rw [ho] at h3; cases h3
      | some o =>
        rw [ho] at h3
        injection h3 with h3
        subst h3
        rw [hAt_cut hl] at ho
        exact inv.nd id o ho
    · obtain ⟨id, _, h3⟩ := List.mem_filterMap.1 hp
      cases ho : Rg.hAt ⟨(drawOps k), st, pl, A⟩ (fun j => Nat.blt j m) id β with
      | none => rw [ho] at h3; cases h3
      | some o =>
        rw [ho] at h3
        injection h3 with h3
        subst h3
        rw [hAt_cut hl] at ho
        exact inv.eh id (by rw [ho]; rfl)
  · simp [Rg.n, List.count_replicate]
  · rw [hAt_zero gd] at hs
    have hs : ((st.hp[id]?).map (·.2)).isSome = true := hs
    unfold Rg.nm
    cases hh : st.hp[id]? with
    | none => rw [hh] at hs; cases hs
    | some p => exact g1.ex.hp p (List.mem_of_getElem? hh)
  · rw [hAt_zero gd] at ho
    have ho : (st.hp[id]?).map (·.2) = some o := ho
    cases hh : st.hp[id]? with
    | none => rw [hh] at ho; cases ho
    | some p =>
      rw [hh] at ho
      injection ho with ho
      subst ho
      exact g1.nd p (List.mem_of_getElem? hh)
  · refine g1.sl t v ?_
    unfold Rg.sAt at hv
    cases hw : Rg.wr ⟨(drawOps k), st, pl, A⟩ t with
    | none => rw [hw] at hv; exact hv
    | some j =>
      rw [hw] at hv
      dsimp only at hv
      rw [gd] at hv
      exact hv
  · rw [hAt_zero gd] at ho
    have ho : (st.hp[id]?).map (·.2) = some o := ho
    unfold Rg.nm
    cases hh : st.hp[id]? with
    | none => rw [hh] at ho; cases ho
    | some p =>
      rw [hh] at ho
      injection ho with ho
      subst ho
      exact g1.hp p (List.mem_of_getElem? hh)
  · rw [hAt_zero gd] at h1 h2
    have h1 : ((st.hp[id]?).map (·.2)).isSome = true := h1
    have h2 : ((st.hp[id']?).map (·.2)).isSome = true := h2
    unfold Rg.nm
    cases hh : st.hp[id]? with
    | none => rw [hh] at h1; cases h1
    | some p =>
      cases hh' : st.hp[id']? with
      | none => rw [hh'] at h2; cases h2
      | some p' =>
        exact pairwise_ne g1.ne hh hh' hne
end
end Go.Proofs.Ytfjfkaaflghaiaa

namespace Go.Proofs.Ytfjfkaaflghaiaa
open Go.RowKit

def noBlk (id : Nat) : List KI → Bool
  | [] => true
  | .blk i :: k => !(id == i) && noBlk id k
  | _ :: k => noBlk id k
theorem wpK_exit {X : Cx} {id : Nat} : ∀ (k : List KI), noBlk id k = true → wpK X k (.exit id) = X.Q (.exit id)
  | [], _ => rfl
  | .code _ :: k, h => wpK_exit k h
  | .ops _ _ :: k, h => wpK_exit k h
  | .lp _ :: k, h => wpK_exit k h
  | .blk i :: k, h => by
    have h : (!(id == i) && noBlk id k) = true := h
    rw [Bool.and_eq_true] at h
    have hne : id ≠ i := by simpa using h.1
    rw [← wpK_exit k h.2]
    show Exit.inBlock i (wpK X k) (.exit id) = _
    funext a w
    show (if id = i then _ else wpK X k (.exit id) a w) = _
    rw [if_neg hne]
def isExitQ (id : Nat) (k : List KI) : Bool := match k with
  | .code (.exit i) :: k => id == i && noBlk id k
  | _ => false
/-- A round is left for a block outside of it. -/
theorem run_exitQ {X : Cx} {k : List KI} {st : St} (id : Nat) (hk : isExitQ id k = true) (h : ∀ a w, G X st a w → X.Q (.exit id) a w) : Run X k st := by
  unfold isExitQ at hk
  split at hk
  · rename_i i k'
    rw [Bool.and_eq_true] at hk
    have e : id = i := by simpa using hk.1
    subst e
    intro a w g
    refine wpIn_exit ?_
    rw [wpK_exit k' hk.2]
    exact h a w g
  · cases hk
end Go.Proofs.Ytfjfkaaflghaiaa

namespace Go.Proofs.Ytfjfkaaflghaiaa
open Go.RowKit

/-- A new block and two numbers. -/
def upd3 (β : Nat → Nat) (nid n1 n2 b x y : Nat) : Nat → Nat := updB (updB (updB β nid b) n1 x) n2 y
section
variable {R : Rg} {X : Cx} {k : List KI} {i : Nat}
theorem tri_nwn (nid n1 n2 : Nat) (hnum1 : numB n1 = true) (hnum2 : numB n2 = true) (V : (Nat → Nat) → Nat → Nat → Nat → Value) (O : (Nat → Nat) → Nat → Nat → Nat → Obj) (f : FuncId) (args : (Nat → Nat) → Array Value) (hn : (R.p i).news = [nid, n1, n2])
    (h : ∀ β extra, headCall X.P X.N [.ops R.ops [i]] ⟨R.ns i β ++ extra, R.nh i β⟩ = some (f, args β, R.dst i)) (hO : ∀ β b x y, isDef (O β b x y) = false) (hv : ∀ β b x y, R.v i (upd3 β nid n1 n2 b x y) = V β b x y) (ho : ∀ β b x y, R.oh i (upd3 β nid n1 n2 b x y) = (b, O β b x y) :: R.nh i β) (hb : ∀ β b x y, R.nm (upd3 β nid n1 n2 b x y) nid = b)
    (hc : ∀ β w, Kept X.M X.B w → Hp (R.nh i β) w → Calls X.P f (args β) w (NwL (α := Nat × Nat × Nat) (fun a => V β a.1 a.2.1 a.2.2) (fun a => [(a.1, O β a.1 a.2.1 a.2.2)]) (fun _ => True) w)) : TriW R X k i := ⟨by
  intro β w J extra hkp hm hJ
  have key : headCall X.P X.N [.ops R.ops [i], .lp J] ⟨R.ns i β ++ extra, R.nh i β⟩ = some (f, args β, R.dst i) := h β extra
  refine run_nwl (X := Xw X k w (R.nh i β)) f (args β) (R.dst i) (α := Nat × Nat × Nat) (fun a => V β a.1 a.2.1 a.2.2) (fun a => [(a.1, O β a.1 a.2.1 a.2.2)]) (fun _ => True) key (fun a p hp => by rw [List.mem_singleton] at hp; subst hp; exact hO _ _ _ _) (fun w1 k1 k2 => hc β w1 (hkp.trans k1 fun b hb ⟨o, ho⟩ => hm _ ho hb) k2) fun a _ hbb => nx_ok (k' := [.lp J]) rfl fun a' w' g => ?_
  obtain ⟨b, x, y⟩ := a
  have hbb := hbb _ (List.mem_singleton.2 rfl)
  dsimp only at hbb g
  refine hJ (upd3 β nid n1 n2 b x y) (fun id hid => ?_) (fun id hid hnb => ?_) ?_ a' w' ?_
  · rw [hn] at hid
    simp only [List.mem_cons, List.not_mem_nil, or_false, not_or] at hid
    have h1 : (id == nid) = false := by simpa using hid.1
    have h2 : (id == n1) = false := by simpa using hid.2.1
    have h3 : (id == n2) = false := by simpa using hid.2.2
    unfold upd3 updB
    rw [h1, h2, h3]
    rfl
  · rw [hn] at hid
    simp only [List.mem_cons, List.not_mem_nil, or_false] at hid
    rcases hid with rfl | rfl | rfl
    · rw [hb]; exact .inl hbb
    · rw [hnum1] at hnb; cases hnb
    · rw [hnum2] at hnb; cases hnb
  · rw [hn]
    have : ([nid, n1, n2].filter fun id => !numB id) = [nid].filter fun id => !numB id := by
      rw [List.filter_cons, List.filter_cons, List.filter_cons, List.filter_cons, List.filter_nil, hnum1, hnum2]
      rfl
    rw [this]
    exact one_pw _ _ nid
  · rw [putL_put] at g
    rw [hv, ho]
    exact g⟩
end
end Go.Proofs.Ytfjfkaaflghaiaa

namespace Go.Proofs.Ytfjfkaaflghaiaa
open Go.RowKit

theorem flat_storeF {α : Type} {P : Program} {t : TypeId} {c : α → List Value} {n : Nat} (hc : ∀ x, (c x).length = n) (hs : tySize P t = some 1) {v : Value} (hv : v.cells.toList = [v]) (h1 : v.oneCell' = true) {L : List α} {sp : List Value} {i k : Nat} {x : α} (hi : i < L.length) (hk : k < n) (hx : c x = (c L[i]).set k v) {off : Nat} (ho : off = i * n + k) : storeV P t (L.flatMap c ++ sp) off v = some ((L.set i x).flatMap c ++ sp) := by
  subst ho
  have hh := flat_head hc hi
  have hcl := hc L[i]
  have hle : i * n + k + 1 ≤ (L.flatMap c ++ sp).length := by have := flat_le (sp := sp) hc hi; omega
  unfold storeV
  rw [hs]
  dsimp only
  rw [hv, Nat.ble_eq_true_of_le hle]
  simp only [List.length_singleton, List.all_cons, List.all_nil, h1, Bool.and_self, beq_self_eq_true, cond_true]
  refine congrArg some ?_
  have hi2 : i < (L.set i x).length := by rw [List.length_set]; exact hi
  rw [flat_at (c := c) (L := L.set i x) hi2, List.getElem_set_self, List.take_set_of_le (Nat.le_refl i), List.drop_set_of_lt (Nat.lt_succ_self i), hx, List.set_eq_take_append_cons_drop, if_pos (by omega), flat_at (c := c) hi]
  have e1 : ∀ R : List Value, ((L.take i).flatMap c ++ R).take (i * n + k) = (L.take i).flatMap c ++ R.take k := fun R => by rw [List.take_append, List.take_of_length_le (by omega), hh, Nat.add_sub_cancel_left]
  have e2 : ∀ R : List Value, ((L.take i).flatMap c ++ R).drop (i * n + k + 1) = R.drop (k + 1) := fun R => by rw [List.drop_append, List.drop_of_length_le (by omega), hh, List.nil_append, show i * n + k + 1 - i * n = k + 1 by omega]
  rw [e1, e2, List.take_append_of_le_length (by omega), List.drop_append_of_le_length (by omega)]
  simp
end Go.Proofs.Ytfjfkaaflghaiaa

namespace Go.Proofs.Ytfjfkaaflghaiaa
open Go.RowKit

/-- A function that is called while this is so of others, and that may write to these blocks of theirs. -/
theorem calls_runEW {P : Program} {f : FuncId} {fn : Func} {c : Code} (args : List Value) {w : World} {R : Ending → World → Prop} (hf : P.funcs[f]? = some fn) (hb : fn.body = some c) (E0 : Ext) (W : Nat → Prop) (hn : E0.n0 = fun b => w.heap.size ≤ b ∨ W b) (hJ : E0.J w) (hp : List (Nat × Obj)) (hh : ∀ p ∈ hp, w.heap[p.1]? = some p.2 ∧ (W p.1 ∧ ¬ E0.D p.1) ∧ isDef p.2 = false) (hne : hp.Pairwise fun p q => p.1 ≠ q.1) (N : Nat) (hN : fn.ntmps = N) (ha : args.length ≤ N)
    (h : Run { P := P, lo := w.heap.size, rd := none, n := 2, M := fun b => E0.D b ∨ W b, B := w, N := N, Q := bodyPostM Fence.wide 2 P fn R, E := E0 } [.code c] ⟨sl0 args, hp⟩) : Calls P f args.toArray w R := by
  refine callsIn_wide.1 (callsIn_of_wp_marks (n := 2) hf hb trivial ?_)
  refine h _ w ⟨Mk.none rfl, by simp; omega, fun t v ht => ?_, fun p hp => ⟨(hh p hp).1, fun _ => .inr (hh p hp).2.1.1⟩, hne, fun p hp => (hh p hp).2.2, Kept.refl _ _, ⟨hJ, fun p hp => ⟨by rw [hn]; exact .inr (hh p hp).2.1.1, (hh p hp).2.1.2⟩, fun b hb => by rw [hn]; exact .inl hb⟩⟩
  have h1 := look_range (f := id) (fun _ _ h => h) ht
  have hlt : t < args.length := (List.getElem?_eq_some_iff.1 h1).1
  have h2 := (List.getElem?_eq_some_iff.1 h1).2
  simp [Array.getElem?_append, hlt, h2]
/-- The end, with what is so of the known blocks' names. -/
theorem run_endP {X : Cx} {k : List KI} {st : St} {fn : Func} {R : Ending → World → Prop} (hQ : X.Q = bodyPostM Fence.wide 2 X.P fn R) (hlo : X.B.heap.size ≤ X.lo) (hk : isRet k = true) (hs : List Nat) (l : List Value) {e : List (Value × Value)} (h : resV X.P st fn.results.toList hs = some (l, e)) (he : EqAll e)
    (hR : ∀ w, Kept X.M X.B w → Hp st.hp w → (st.hp.Pairwise fun p q => p.1 ≠ q.1) → R (.returned (resVal l)) w) : Run X k st := by
  intro a w g
  have h2 : bodyPostM Fence.wide 2 X.P fn R .ret a w := by
    obtain ⟨Ds, h1, h2, h3, h4⟩ := g.shut hlo
    show LeavesInM Fence.wide 2 X.P fn a.tmps R a.defers .returning w
    rw [h1]
    exact leave_marks (by simp) h2 h3 fun w' k => ⟨_, results_run (h4 w' k) h he, hR w' (h4 w' k).kp (h4 w' k).Hp (h4 w' k).ne⟩
  unfold isRet at hk
  split at hk
  · show X.Q .normal a w
    rw [hQ]
    exact h2
  · rename_i k'
    refine wpIn_ret ?_
    rw [wpK_ret, hQ]
    exact h2
  · cases hk
/-- A call that writes to a block of its caller's, which nobody asks for any more. -/
def Drp (b : Nat) (v : Value) (w : World) (e : Ending) (w' : World) : Prop := e = .returned v ∧ Kept (fun k => k = b) w w'
theorem run_drop {X : Cx} {k : List KI} {st : St} (f : FuncId) (args : Array Value) (d : Option Tmp) (v : Value) (j b : Nat) (o : Obj) (h : headCall X.P X.N k st = some (f, args, d)) (hj : st.hp[j]? = some (b, o)) (hc : ∀ w, Kept X.M X.B w → Hp st.hp w → Calls X.P f args w (Drp b v w))
    (hr : Run X (nextK k) ((⟨st.sl, st.hp.eraseIdx j⟩ : St).put d v)) : Run X k st := by
  refine run_call f args d h (fun _ : Unit => v) (fun _ => st.hp.eraseIdx j) (fun _ => True) (fun w k1 k2 k3 => (hc w k1 k2).mono fun e w' ⟨he, hk⟩ => ⟨(), trivial, he, ?_⟩) (fun hnd _ _ p hp => hnd p (List.mem_of_mem_eraseIdx hp)) (fun _ _ => hr)
  refine ⟨hk.mono fun x hx => ⟨o, hx ▸ List.mem_of_getElem? hj⟩, fun p hp => ?_, k3.sublist (List.eraseIdx_sublist _ _)⟩
  have hp2 := List.mem_of_mem_eraseIdx hp
  have hpp := k2 p hp2
  exact ⟨(hk.block p.1 (Array.getElem?_eq_some_iff.1 hpp).1 (fun e => erase_ne k3 hj hp e.symm)).trans hpp, .inl ⟨p.2, hp2⟩⟩
theorem tri_dropW {R : Rg} {X : Cx} {k : List KI} {i : Nat} (b : (Nat → Nat) → Nat) (o : (Nat → Nat) → Obj) (r : (Nat → Nat) → List (Nat × Obj)) (V : (Nat → Nat) → Value) (f : FuncId) (args : (Nat → Nat) → Array Value) (hn : (R.p i).news = []) (h : ∀ β extra, headCall X.P X.N [.ops R.ops [i]] ⟨R.ns i β ++ extra, R.nh i β⟩ = some (f, args β, R.dst i))
    (hh : ∀ β, R.nh i β = (b β, o β) :: r β) (ho : ∀ β, R.oh i β = r β) (hv : ∀ β, R.v i β = V β) (hc : ∀ β w, Kept X.M X.B w → Hp (R.nh i β) w → Calls X.P f (args β) w (Drp (b β) (V β) w)) : TriW R X k i := ⟨by
  intro β w J extra hkp hm hJ
  have key : headCall X.P X.N [.ops R.ops [i], .lp J] ⟨R.ns i β ++ extra, R.nh i β⟩ = some (f, args β, R.dst i) := h β extra
  refine run_drop (X := Xw X k w (R.nh i β)) f (args β) (R.dst i) (V β) 0 (b β) (o β) key (by rw [hh]; rfl) (fun w1 k1 k2 => hc β w1 (hkp.trans k1 fun b hb ⟨o, ho⟩ => hm _ ho hb) k2) (nx_ok (k' := [.lp J]) rfl fun a' w' g => hJ β (fun _ _ => rfl) (fun id hid => by rw [hn] at hid; cases hid) (by rw [hn]; exact List.Pairwise.nil) a' w' ?_)
  rw [putL_put] at g
  rw [ho, hv]
  have g2 := g
  rw [show (⟨R.ns i β ++ extra, R.nh i β⟩ : St).hp.eraseIdx 0 = r β from by rw [hh]; rfl] at g2
  exact g2⟩
/-- A call that writes to a block of its caller's, which nobody asks for any more, and makes new ones. -/
def DrpN {α : Type} (b : Nat) (V : α → Value) (New : α → List (Nat × Obj)) (I : α → Prop) (w : World) (e : Ending) (w' : World) : Prop :=
  ∃ x, I x ∧ e = .returned (V x) ∧ Kept (fun k => k = b) w w' ∧ (∀ p ∈ New x, w'.heap[p.1]? = some p.2 ∧ w.heap.size ≤ p.1) ∧ (New x).Pairwise fun p q => p.1 ≠ q.1
theorem run_dropn {X : Cx} {k : List KI} {st : St} (f : FuncId) (args : Array Value) (d : Option Tmp) {α : Type} (V : α → Value) (New : α → List (Nat × Obj)) (j b : Nat) (o : Obj) (I : α → Prop) (h : headCall X.P X.N k st = some (f, args, d)) (hj : st.hp[j]? = some (b, o)) (ho : ∀ x, ∀ p ∈ New x, isDef p.2 = false) (hc : ∀ w, Kept X.M X.B w → Hp st.hp w → Calls X.P f args w (DrpN b V New I w))
    (hr : ∀ x, I x → (∀ p ∈ New x, X.B.heap.size ≤ p.1) → Run X (nextK k) ((⟨st.sl, New x ++ st.hp.eraseIdx j⟩ : St).put d (V x))) : Run X k st := by
  refine run_call f args d h V (fun x => New x ++ st.hp.eraseIdx j) (fun x => I x ∧ ∀ p ∈ New x, X.B.heap.size ≤ p.1) (fun w k1 k2 k3 => (hc w k1 k2).mono fun e w' ⟨x, hx, he, hk, hn, hp⟩ => ⟨x, ⟨hx, fun p hp => Nat.le_trans k1.size (hn p hp).2⟩, he, ?_⟩) (fun hnd x _ p hp => ?_) (fun x hx => hr x hx.1 hx.2)
  · refine ⟨hk.mono fun x hx => ⟨o, hx ▸ List.mem_of_getElem? hj⟩, fun p hpm => ?_, ?_⟩
    · rcases List.mem_append.1 hpm with hpm | hpm
      · exact ⟨(hn p hpm).1, .inr (hn p hpm).2⟩
      · have hp2 := List.mem_of_mem_eraseIdx hpm
        have hpp := k2 p hp2
        exact ⟨(hk.block p.1 (Array.getElem?_eq_some_iff.1 hpp).1 (fun e => erase_ne k3 hj hpm e.symm)).trans hpp, .inl ⟨p.2, hp2⟩⟩
    · refine List.pairwise_append.2 ⟨hp, k3.sublist (List.eraseIdx_sublist _ _), fun p hpm q hqm => ?_⟩
      have h1 := (hn p hpm).2
      have h2 : q.1 < w.heap.size := (Array.getElem?_eq_some_iff.1 (k2 q (List.mem_of_mem_eraseIdx hqm))).1
      omega
  · rcases List.mem_append.1 hp with hp | hp
    · exact ho x p hp
    · exact hnd p (List.mem_of_mem_eraseIdx hp)
/-- Spare cells. -/
def zR (x : Nat) : List Value := List.replicate x (.int .i64 0)
theorem zR_is (x : Nat) : (Builtin.zeroCells (Value.int .i64 0).cells x).toList = zR x := by
  unfold zR Builtin.zeroCells
  have e : (Value.int .i64 0).cells = #[.int .i64 0] := rfl
  rw [e]
  refine List.eq_replicate_iff.2 ⟨by simp, fun v hv => ?_⟩
  simp only [Array.toList_map, List.mem_map] at hv
  obtain ⟨i, _, rfl⟩ := hv
  have : i % (#[Value.int .i64 0] : Array Value).size = 0 := Nat.mod_one i
  rw [this]
  rfl
theorem zR_drop (x m : Nat) : (zR x).drop m = zR (x - m) := by unfold zR; rw [List.drop_replicate]
section
variable {α : Type} {X : Cx} {k : List KI} {st : St} {t ty e : TypeId} (ht : X.P.underlying t = some (.slice e)) (hs : tySize X.P e = some 1) (hz : tyZero X.P e = some (.int .i64 0)) (hby : Nat.ble (tyBytes X.P e) 1000 = true) (c : α → List Value) (hc : ∀ x, (c x).length = 1)
include ht hs hz hby hc
/-- An append to a row of ints of the call's own, the rest of which is zeros. -/
theorem run_appZ (h1 : ∀ x, ∀ u ∈ c x, u.oneCell' = true) (d : Option Tmp) (j g len x m c' : Nat) (L M : List α) (a : Addr) (hll : L.length = len) (hml : M.length = m) (h : headSem X.N k st = some (appSem t ty (.slice (some ⟨g, 0, none⟩) len (len + x)) (.slice (some a) m c'), d)) (hj : st.hp[j]? = some (g, .cells (L.flatMap c ++ zR x).toArray e (0, 0)))
    (hnews : ∀ w, Kept X.M X.B w → Hp st.hp w → ∀ j u, (M.flatMap c)[j]? = some u → w.cell? (a.add j) = some u) (h63 : len + m ≤ 1000000) (hgB : X.B.heap.size ≤ g)
    (hr : ∀ g' x', X.B.heap.size ≤ g' → Run X (nextK k) ((⟨st.sl, (g', .cells ((L ++ M).flatMap c ++ zR x').toArray e (0, 0)) :: st.hp.eraseIdx j⟩ : St).put d (.slice (some ⟨g', 0, none⟩) (len + m) (len + m + x')))) : Run X k st := by
  obtain ⟨i, hi, hiz, his, hib⟩ := info_of hs hz
  have hb := Nat.le_of_ble_eq_true hby
  have hbytes : (len + m) * i.bytes ≤ 140737488355328 := by rw [hib]; exact Nat.le_trans (Nat.mul_le_mul h63 hb) (by omega)
  have hm63 : len + m ≤ maxLen := by simp only [maxLen]; omega
  have hlL : (L.flatMap c).length = len := by rw [flat_len hc, hll, Nat.mul_one]
  have hlM : (M.flatMap c).length = m := by rw [flat_len hc, hml, Nat.mul_one]
  intro a0 w g0
  refine head_at h g0 ?_
  have hg := (g0.hp _ (List.mem_of_getElem? hj)).1
  dsimp only at hg
  have hnw := hnews w g0.kp g0.Hp
  by_cases hroom : m ≤ x
  · have hrun := run_append_room (P := X.P) w t ty e i ht hi g len (len + x) _ hg a m c' (M.flatMap c) (by rw [his, hlM, Nat.mul_one]) hnw (flat_one h1 M) (by omega) (by rw [his, List.size_toArray, List.length_append, hlL, hlM]; unfold zR; rw [List.length_replicate]; omega)
    unfold appSem
    simp only [Sem.run_bind, hrun, Result.andThen, Sem.run_pure]
    have e1 : (L.flatMap c ++ zR x).toArray.toList.take (len * i.size) ++ M.flatMap c ++ (L.flatMap c ++ zR x).toArray.toList.drop (len * i.size + (M.flatMap c).length) = (L ++ M).flatMap c ++ zR (x - m) := by
      rw [his, Nat.mul_one, ← hlL, ← zR_drop, List.flatMap_append, ← hlM]
      generalize L.flatMap c = A
      generalize M.flatMap c = B
      simp
    rw [e1]
    have g1 := g0.setRow hj ((L ++ M).flatMap c ++ zR (x - m)).toArray
    have h2 := hr g (x - m) hgB
    rw [show len + m + (x - m) = len + x by omega] at h2
    refine h2 _ _ (G.put (g1.hpsub (hp' := (g, .cells ((L ++ M).flatMap c ++ zR (x - m)).toArray e (0, 0)) :: st.hp.eraseIdx j) (fun p hp => ?_) (List.pairwise_cons.2 ⟨fun q hq => (erase_ne g0.ne hj hq : g ≠ q.1), g0.ne.sublist (List.eraseIdx_sublist _ _)⟩)) (headSem_dst h) _)
    rcases List.mem_cons.1 hp with rfl | hp
    · exact List.mem_of_getElem? (i := j) (by rw [List.getElem?_set]; simp [(List.getElem?_eq_some_iff.1 hj).1])
    · obtain ⟨q, hq, h2⟩ := List.mem_eraseIdx_iff_getElem?.1 hp
      exact List.mem_of_getElem? (i := q) (by rw [List.getElem?_set]; simp [Ne.symm hq, h2])
  · have holds : ∀ jj u, (L.flatMap c)[jj]? = some u → w.cell? ((⟨g, 0, none⟩ : Addr).add jj) = some u := fun jj u hu => by
      rw [add_none, Nat.zero_add]
      refine cells_of_heap hg jj u ?_
      rw [List.getElem?_append_left (List.getElem?_eq_some_iff.1 hu).1]
      exact hu
    have hrun := run_append_grow (P := X.P) w t ty e i (.int .i64 0) ht hi hiz ⟨g, 0, none⟩ len (len + x) (L.flatMap c) (by rw [his, hlL, Nat.mul_one]) holds a m c' (M.flatMap c) (by rw [his, hlM, Nat.mul_one]) hnw (by omega) (by simp only [maxLen] at hm63; omega) (growslice_fits (by omega) hbytes)
    unfold appSem
    simp only [Sem.run_bind, hrun, Result.andThen, Sem.run_pure]
    have hge := grownCap_ge w (len + m) (len + x) e
    obtain ⟨y, hy⟩ : ∃ y, y = grownCap w (len + m) (len + x) e - (len + m) := ⟨_, rfl⟩
    have e1 : (L.flatMap c).toArray ++ (M.flatMap c).toArray ++ Builtin.zeroCells (Value.int .i64 0).cells (grownCap w (len + m) (len + x) e - (len + m)) = ((L ++ M).flatMap c ++ zR y).toArray := by
      rw [← zR_is, List.flatMap_append, ← hy]
      simp
    rw [e1]
    have h2 := hr w.heap.size y g0.kp.size
    rw [show len + m + y = grownCap w (len + m) (len + x) e by omega] at h2
    have g1 := (g0.world (Keeps.refl w).drew).alloc (.cells ((L ++ M).flatMap c ++ zR y).toArray e (0, 0)) rfl
    refine h2 _ _ (G.put (g1.hpsub (hp' := (w.heap.size, .cells ((L ++ M).flatMap c ++ zR y).toArray e (0, 0)) :: st.hp.eraseIdx j) (fun p hp => ?_) ?_) (headSem_dst h) _)
    · rcases List.mem_cons.1 hp with rfl | hp
      · exact List.mem_cons_self
      · exact List.mem_cons_of_mem _ (List.mem_of_mem_eraseIdx hp)
    · refine List.pairwise_cons.2 ⟨fun q hq => ?_, g0.ne.sublist (List.eraseIdx_sublist _ _)⟩
      have := (Array.getElem?_eq_some_iff.1 (g0.hp q (List.mem_of_mem_eraseIdx hq)).1).1
      exact Nat.ne_of_gt this
/-- An append to a slice of ints that is nil. -/
theorem run_appZ_none (d : Option Tmp) (m c' : Nat) (M : List α) (a : Addr) (hml : M.length = m) (hm : 0 < m) (h : headSem X.N k st = some (appSem t ty (.slice none 0 0) (.slice (some a) m c'), d))
    (hnews : ∀ w, Kept X.M X.B w → Hp st.hp w → ∀ j u, (M.flatMap c)[j]? = some u → w.cell? (a.add j) = some u) (h63 : m ≤ 1000000)
    (hr : ∀ g' x', X.B.heap.size ≤ g' → Run X (nextK k) ((⟨st.sl, (g', .cells (M.flatMap c ++ zR x').toArray e (0, 0)) :: st.hp⟩ : St).put d (.slice (some ⟨g', 0, none⟩) m (m + x')))) : Run X k st := by
  obtain ⟨i, hi, hiz, his, hib⟩ := info_of hs hz
  have hb := Nat.le_of_ble_eq_true hby
  have hlM : (M.flatMap c).length = m := by rw [flat_len hc, hml, Nat.mul_one]
  intro a0 w g0
  refine head_at h g0 ?_
  have hnw := hnews w g0.kp g0.Hp
  have hbytes : m * i.bytes ≤ 140737488355328 := by rw [hib]; exact Nat.le_trans (Nat.mul_le_mul h63 hb) (by omega)
  have hrun := run_append_nil (P := X.P) w t ty e i (.int .i64 0) ht hi hiz a m c' (M.flatMap c) (by rw [his, hlM, Nat.mul_one]) hnw hm (by omega) (by omega)
  unfold appSem
  simp only [Sem.run_bind, hrun, Result.andThen, Sem.run_pure]
  have hge := grownCap_ge w m 0 e
  obtain ⟨y, hy⟩ : ∃ y, y = grownCap w m 0 e - m := ⟨_, rfl⟩
  have e1 : (M.flatMap c).toArray ++ Builtin.zeroCells (Value.int .i64 0).cells (grownCap w m 0 e - m) = (M.flatMap c ++ zR y).toArray := by
    rw [← zR_is, ← hy]
    simp
  rw [e1]
  have h2 := hr w.heap.size y g0.kp.size
  rw [show m + y = grownCap w m 0 e by omega] at h2
  have g1 := (g0.world (Keeps.refl w).drew).alloc (.cells (M.flatMap c ++ zR y).toArray e (0, 0)) rfl
  exact h2 _ _ (g1.put (headSem_dst h) _)
end
theorem zeros_drop {z : List Value} {n : Nat} (hz : z.length = n) {k N : Nat} (h : k ≤ N) : ((List.replicate N z).flatten).drop (k * n) = (List.replicate (N - k) z).flatten := by
  obtain ⟨d, rfl⟩ := Nat.exists_eq_add_of_le h
  rw [← List.replicate_append_replicate, List.flatten_append, List.drop_append_of_le_length (by rw [zeros_len hz]; exact Nat.le_refl _), List.drop_of_length_le (by rw [zeros_len hz]; exact Nat.le_refl _), List.nil_append, Nat.add_sub_cancel_left]
section
variable {α : Type} {P : Program} {t ty e : TypeId} {n : Nat} {c : α → List Value} {z : List Value}
/-- copy of a row into a longer one that is new. -/
theorem copy_more (hs : tySize P e = some n) (hc : ∀ x, (c x).length = n) (h1 : ∀ x, ∀ u ∈ c x, u.oneCell' = true) (hz : z.length = n) (ht : P.underlying t = some (.slice e)) {b cap cs N : Nat} {a : Option Addr} {L : List α} {w : World} (hN : L.length ≤ N) (hw : w.heap[b]? = some (.cells (rowG c z ([] : List α) N).toArray e (0, 0)))
    (hsrc : L ≠ [] → ∃ b' o, a = some ⟨b', o, none⟩ ∧ ∀ j u, (L.flatMap c)[j]? = some u → w.cell? ((⟨b', o, none⟩ : Addr).add j) = some u) :
    (Builtin.copy_ #[t, t] ty #[.slice (some ⟨b, 0, none⟩) N cap, .slice a L.length cs] >>= fun v => pure (Next.value v)).run P w = .ok (.value (.int .i64 (L.length : Int))) (w.setRow b (rowG c z L N).toArray) := by
  have hlen : (rowG c z ([] : List α) N).length = N * n := rowG_len hc hz (Nat.zero_le _)
  have hst := run_storeCells_at (P := P) b 0 e (L.flatMap c) 0 (rowG c z ([] : List α) N).toArray w hw (by rw [List.size_toArray, hlen, flat_len hc]; have := Nat.mul_le_mul_right n hN; omega) (flat_one h1 L)
  have e3 : (rowG c z ([] : List α) N).toArray.toList.take (0 + 0) ++ L.flatMap c ++ (rowG c z ([] : List α) N).toArray.toList.drop (0 + 0 + (L.flatMap c).length) = rowG c z L N := by
    show (rowG c z ([] : List α) N).take 0 ++ _ ++ (rowG c z ([] : List α) N).drop (0 + (L.flatMap c).length) = _
    rw [Nat.zero_add, flat_len hc]
    unfold rowG
    have h0 : ([] : List α).flatMap c ++ (List.replicate (N - ([] : List α).length) z).flatten = (List.replicate N z).flatten := rfl
    rw [h0, zeros_drop hz hN]
    rfl
  rw [e3] at hst
  have hf : (Builtin.firstCells n L.length (.slice a L.length cs)).run P w = .ok (L.flatMap c).toArray w := by
    by_cases hL : L = []
    · subst hL
      cases a with
      | none => simp [Builtin.firstCells]
      | some a =>
        have := run_firstCells_some (P := P) w n 0 a 0 cs [] (by simp) (fun j v hj => by simp at hj)
        exact this
    · obtain ⟨b', o, rfl, hsr⟩ := hsrc hL
      exact run_firstCells_some (P := P) w n L.length ⟨b', o, none⟩ L.length cs (L.flatMap c) (flat_len hc L) hsr
  have hszr := sizeOf_run hs w
  have hmin : L.length.min N = L.length := Nat.min_eq_left hN
  simp [Builtin.copy_, run_underlying ht, Builtin.lenOf, hszr, hf, hst, Result.andThen, goInt, hmin]
/-- The last element of a row that has been copied is written. -/
theorem store_last (hs : tySize P e = some n) (hc : ∀ x, (c x).length = n) (h1 : ∀ x, ∀ u ∈ c x, u.oneCell' = true) (hz : z.length = n) {L : List α} {x : α} {v : Value} (hv : v.cells.toList = c x) : storeV P e (rowG c z L (L.length + 1)) (L.length * n) v = some ((L ++ [x]).flatMap c) := by
  have hlen : (rowG c z L (L.length + 1)).length = (L.length + 1) * n := rowG_len hc hz (Nat.le_succ _)
  have hf : (L.flatMap c).length = L.length * n := flat_len hc L
  unfold storeV
  rw [hs]
  dsimp only
  have h2 : (v.cells.toList.length == n && Nat.ble (L.length * n + n) (rowG c z L (L.length + 1)).length && v.cells.toList.all (·.oneCell')) = true := by
    rw [hv, hc, hlen, Nat.add_mul, Nat.one_mul, Nat.ble_eq_true_of_le (Nat.le_refl _), List.all_eq_true.2 (h1 x)]
    simp
  rw [h2, cond_true, hv]
  refine congrArg some ?_
  have e1 : rowG c z L (L.length + 1) = L.flatMap c ++ z := by
    unfold rowG
    rw [Nat.add_sub_cancel_left]
    simp
  rw [e1, ← hf, List.take_left, List.drop_of_length_le (by rw [List.length_append, hz]; exact Nat.le_refl _), List.append_nil, List.flatMap_append]
  simp
end
end Go.Proofs.Ytfjfkaaflghaiaa
