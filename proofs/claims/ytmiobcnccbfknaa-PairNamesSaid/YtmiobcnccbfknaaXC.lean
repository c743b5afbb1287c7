/-
  ENGINE, twelfth part: a range over a function.
-/
import Derived.Test.YtmiobcnccbfknaaXB
namespace Go.Proofs.Ytmiobcnccbfknaa
open Go.RowKit

theorem def_ne {w : World} {hp : List (Nat × Obj)} (h : ∀ p ∈ hp, w.heap[p.1]? = some p.2) (nd : ∀ p ∈ hp, isDef p.2 = false) {b : Nat} {o : Obj} (hb : w.heap[b]? = some o) (hd : isDef o = true) {p : Nat × Obj} (hp' : p ∈ hp) : p.1 ≠ b := by
  intro e
  have h1 := h p hp'
  rw [e, hb] at h1
  injection h1 with h1
  have h2 := nd p hp'
  rw [← h1, hd] at h2
  cases h2
theorem putObj_size (w : World) (l : Nat) (o : Obj) : (w.putObj l o).heap.size = w.heap.size := by simp [World.putObj]
theorem Kept.putObj {M : Nat → Prop} {B w : World} (h : Kept M B w) {l : Nat} (o : Obj) (hl : l < B.heap.size → M l) : Kept M B (w.putObj l o) :=
  ⟨h.os, h.tape, h.output, by rw [putObj_size]; exact h.size, fun k hk hn => by
    have hne : k ≠ l := fun e => by subst e; exact hn (hl hk)
    exact (World.putObj_heap_other hne).trans (h.block k hk hn)⟩

/-- What holds of the function that ranges while the iterator goes on. -/
structure CJ (X : Cx) (hp : List (Nat × Obj)) (e : Ext) (l : Nat) (o : Obj) (ml : List Nat) (n : Nat) (w : World) : Prop where
  hh : ∀ p ∈ hp, w.heap[p.1]? = some p.2 ∧ (p.1 < X.B.heap.size → X.M p.1)
  ne : hp.Pairwise fun p q => p.1 ≠ q.1
  nd : ∀ p ∈ hp, isDef p.2 = false
  kp : Kept X.M X.B w
  ex : GE e hp w
  rc : w.heap[l]? = some o
  ms : ∀ D ∈ ml, w.heap[D]? = some (.deferred (some []))
  mx : ∀ D ∈ ml, X.lo ≤ D ∧ e.n0 ≤ D ∧ ¬ e.D D ∧ D < n
  lx : l < n ∧ e.n0 ≤ l ∧ ¬ e.D l ∧ X.B.heap.size ≤ l
  n0 : n ≤ w.heap.size
def RM (hp : List (Nat × Obj)) (e : Ext) (l : Nat) (b : Nat) : Prop := (∃ o, (b, o) ∈ hp) ∨ b = l ∨ e.D b
def mkE (X : Cx) (hp : List (Nat × Obj)) (e : Ext) (l : Nat) (o : Obj) (ms : List Nat) (n0 : Nat) : Ext where
  D := RM hp e l
  n0 := n0
  J := CJ X hp e l o ms n0
  stab := fun w w' h k => by
    have hlt : ∀ {b : Nat} {o : Obj}, w.heap[b]? = some o → b < w.heap.size := fun h => (Array.getElem?_eq_some_iff.1 h).1
    refine ⟨fun p hp => ⟨(k.block _ (hlt (h.hh p hp).1) fun hh => hh.2 (.inl ⟨p.2, hp⟩)).trans (h.hh p hp).1, (h.hh p hp).2⟩, h.ne, h.nd, h.kp.trans k fun b hb hh => ?_, ⟨e.stab _ _ h.ex.J (k.mono fun b hh => ⟨?_, fun hD => hh.2 (.inr (.inr hD))⟩), h.ex.hp, Nat.le_trans h.ex.n0 k.size⟩, (k.block _ (hlt h.rc) fun hh => hh.2 (.inr (.inl rfl))).trans h.rc, fun D hD => (k.block _ (hlt (h.ms D hD)) fun hh => ?_).trans (h.ms D hD), h.mx, h.lx, Nat.le_trans h.n0 k.size⟩
    · have := h.lx
      have := hh.1
      omega
    · have := h.lx
      have := hh.1
      omega
    · have := (h.mx D hD).2.2.2
      have := hh.1
      omega
  lt := fun w b h hD => by
    rcases hD with ⟨o, ho⟩ | rfl | hD
    · exact (Array.getElem?_eq_some_iff.1 (h.hh _ ho).1).1
    · exact (Array.getElem?_eq_some_iff.1 h.rc).1
    · exact e.lt _ _ h.ex.J hD
/-- What holds of others in a round. -/
def rE (e : Ext) (l : Nat) (o : Obj) (ms : List Nat) : Ext where
  D := fun b => b = l ∨ b ∈ ms ∨ e.D b
  n0 := e.n0
  J := fun w => e.J w ∧ w.heap[l]? = some o ∧ ∀ D ∈ ms, w.heap[D]? = some (.deferred (some []))
  stab := fun w w' h k => by
    have hlt : ∀ {b : Nat} {o : Obj}, w.heap[b]? = some o → b < w.heap.size := fun h => (Array.getElem?_eq_some_iff.1 h).1
    exact ⟨e.stab _ _ h.1 (k.mono fun b hh => ⟨hh.1, fun hD => hh.2 (.inr (.inr hD))⟩), (k.block _ (hlt h.2.1) fun hh => hh.2 (.inl rfl)).trans h.2.1, fun D hD => (k.block _ (hlt (h.2.2 D hD)) fun hh => hh.2 (.inr (.inl hD))).trans (h.2.2 D hD)⟩
  lt := fun w b h hD => by
    rcases hD with rfl | hD | hD
    · exact (Array.getElem?_eq_some_iff.1 h.2.1).1
    · exact (Array.getElem?_eq_some_iff.1 (h.2.2 b hD)).1
    · exact e.lt _ _ h.1 hD
def roundQ (Jn : Act → World → Prop) (Je : Code → Act → World → Prop) : Exit → Act → World → Prop
  | .normal => Jn
  | .ret => Je .ret
  | .exit id => Je (.exit id)
  | _ => fun _ _ => False
/-- In what a round is gone through. -/
def XR (X : Cx) (l : Nat) (ms : List Nat) (o : Obj) (w1 : World) (hp : List (Nat × Obj)) (e : Ext) (Q : Exit → Act → World → Prop) : Cx := { P := X.P, lo := 0, rd := some l, n := 0, M := RM hp e l, B := w1, N := X.N, Q := Q, E := rE e l o ms }
/-- The round's first state. -/
def parSt (ps : List Tmp) (x : List Value) (st : St) : St := (ps.zip x).foldl (fun s p => s.put (some p.1) p.2) st
theorem par_ok {X : Cx} : ∀ {l : List (Tmp × Value)} {st : St} {a : Act} {w : World}, G X st a w → (∀ p ∈ l, p.1 < X.N) → G X (l.foldl (fun s p => s.put (some p.1) p.2) st) (l.foldl (fun a p => a.put (some p.1) p.2) a) w
  | [], st, a, w, g, _ => g
  | p :: l, st, a, w, g, h => par_ok (l := l) (g.put (by simpa [dstOk] using h p List.mem_cons_self) p.2) fun q hq => h q (List.mem_cons_of_mem _ hq)
theorem fold_put (df : List Deferred) : ∀ (l : List (Tmp × Value)) (t : Array Value), (l.foldl (fun (a : Act) p => a.put (some p.1) p.2) { tmps := t, defers := df }) = { tmps := l.foldl (fun t p => t.setIfInBounds p.1 p.2) t, defers := df }
  | [], _ => rfl
  | _ :: l, _ => fold_put df l _

def headRange (k : List KI) (st : St) : Option (Value × List Tmp) :=
  match k with
  | .code (.rangeFunc g ps _ _) :: _ => bif (match g with | .tmp t => (look st.sl t).isSome | _ => true) then some (st.ev g, ps.toList) else none
  | _ => none
def rangeA (k : List KI) : Code := match k with
  | .code (.rangeFunc _ _ a _) :: _ => a
  | _ => .skip
def rangeB (k : List KI) : Code := match k with
  | .code (.rangeFunc _ _ _ b) :: _ => b
  | _ => .skip

theorem putObj_block {w : World} {l : Nat} {o : Obj} {b : Nat} (h : b ≠ l) : (w.putObj l o).heap[b]? = w.heap[b]? := World.putObj_heap_other h
/-- A round begins: its record turns. -/
theorem g_rec {X : Cx} {l : Nat} {ms : List Nat} {r b : Loop} {w1 : World} {hp : List (Nat × Obj)} {e : Ext} {Q Q' : Exit → Act → World → Prop} {st : St} {a : Act} {w : World} (g : G (XR X l ms (.loop r) w1 hp e Q) st a w) (hl : e.n0 ≤ l ∧ ¬ e.D l) : G (XR X l ms (.loop b) w1 hp e Q') st a (w.putObj l (.loop b)) := by
  have hrc : w.heap[l]? = some (.loop r) := g.ex.J.2.1
  have hlt : l < w.heap.size := (Array.getElem?_eq_some_iff.1 hrc).1
  have hne : ∀ p ∈ st.hp, p.1 ≠ l := fun p hp e => (g.ex.hp p hp).2 (.inl e)
  have hms : ∀ D ∈ ms, D ≠ l := fun D hD e => by
    have := g.ex.J.2.2 D hD
    rw [e, hrc] at this
    cases this
  refine ⟨?_, g.sz, g.sl, fun p hp => ⟨(putObj_block (hne p hp)).trans (g.hp p hp).1, (g.hp p hp).2⟩, g.ne, g.nd, g.kp.putObj _ fun _ => .inr (.inl rfl), ⟨⟨e.stab _ _ g.ex.J.1 ((Kept.refl _ w).putObj _ fun _ => hl), World.putObj_heap_same hlt, fun D hD => (putObj_block (hms D hD)).trans (g.ex.J.2.2 D hD)⟩, g.ex.hp, by rw [putObj_size]; exact g.ex.n0⟩⟩
  obtain ⟨Ds, h1, h2, h3⟩ := g.df
  refine ⟨Ds, h1, h2, fun D hD => ?_⟩
  obtain ⟨h4, h5, h6, h7⟩ := h3 D hD
  exact ⟨(putObj_block fun e => h7 (.inl e)).trans h4, h5, h6, h7⟩
/-- A round ends. -/
theorem round_end {X : Cx} {hp hp' : List (Nat × Obj)} {e e' : Ext} {l : Nat} {ms : List Nat} {n0 : Nat} {w1 : World} {r0 rb o' : Loop} (c1 : CJ X hp e l (.loop r0) ms n0 w1) (hEM : ∀ b, b < X.B.heap.size → e.D b → X.M b) {sl' : List (Nat × Value)} {a : Act} {w : World} {Q : Exit → Act → World → Prop} (hn : e'.n0 = e.n0) (hsub : ∀ b, e'.D b → e.D b ∨ w1.heap.size ≤ b)
    (g : G ((XR X l ms (.loop rb) w1 hp e Q).withE (rE e' l (.loop rb) ms)) ⟨sl', hp'⟩ a w) : CJ X hp' e' l (.loop o') ms n0 (w.putObj l (.loop o')) ∧ Kept (RM hp e l) w1 (w.putObj l (.loop o')) ∧ ∀ b, RM hp' e' l b → RM hp e l b ∨ w1.heap.size ≤ b := by
  have hrc : w.heap[l]? = some (.loop rb) := g.ex.J.2.1
  have hlt : l < w.heap.size := (Array.getElem?_eq_some_iff.1 hrc).1
  have hne : ∀ p ∈ hp', p.1 ≠ l := fun p hp e => (g.ex.hp p hp).2 (.inl e)
  have hms : ∀ D ∈ ms, D ≠ l := fun D hD e => by
    have := g.ex.J.2.2 D hD
    rw [e, hrc] at this
    cases this
  have hRM : ∀ b, b < X.B.heap.size → RM hp e l b → X.M b := fun b hb hm => by
    rcases hm with ⟨o, ho⟩ | rfl | hD
    · exact (c1.hh _ ho).2 hb
    · have := c1.lx.2.2.2
      omega
    · exact hEM b hb hD
  have kw : Kept (RM hp e l) w1 (w.putObj l (.loop o')) := Kept.putObj (M := RM hp e l) g.kp _ fun _ => .inr (.inl rfl)
  have hle : e'.n0 ≤ l ∧ ¬ e'.D l := ⟨by rw [hn]; exact c1.lx.2.1, fun hD => by
    rcases hsub l hD with h | h
    · exact c1.lx.2.2.1 h
    · have := c1.lx.1
      have := c1.n0
      omega⟩
  refine ⟨⟨fun p hpp => ⟨(putObj_block (hne p hpp)).trans (g.hp p hpp).1, fun hb => hRM _ hb ((g.hp p hpp).2 (Nat.lt_of_lt_of_le hb c1.kp.size))⟩, g.ne, g.nd, c1.kp.trans kw hRM, ⟨e'.stab _ _ g.ex.J.1 ((Kept.refl _ w).putObj _ fun _ => hle), fun p hpp => ⟨(g.ex.hp p hpp).1, fun hD => (g.ex.hp p hpp).2 (.inr (.inr hD))⟩, by rw [putObj_size]; exact g.ex.n0⟩, World.putObj_heap_same hlt, fun D hD => (putObj_block (hms D hD)).trans (g.ex.J.2.2 D hD), fun D hD => ?_, ⟨c1.lx.1, hle.1, hle.2, c1.lx.2.2.2⟩, ?_⟩, kw, fun b hb => ?_⟩
  · obtain ⟨m1, m2, m3, m4⟩ := c1.mx D hD
    refine ⟨m1, by rw [hn]; exact m2, fun hE => ?_, m4⟩
    rcases hsub D hE with h | h
    · exact m3 h
    · have := c1.n0
      omega
  · have h1 := c1.n0
    have h2 := g.kp.size
    rw [putObj_size]
    exact Nat.le_trans h1 h2
  · rcases hb with ⟨o, ho⟩ | rfl | hD
    · by_cases hb : b < w1.heap.size
      · exact .inl ((g.hp _ ho).2 hb)
      · exact .inr (by omega)
    · exact .inl (.inr (.inl rfl))
    · exact (hsub b hD).imp_left fun h => .inr (.inr h)
/-- The loop has ended. -/
theorem range_end {X : Cx} {st : St} {a : Act} {w w3 : World} (g : G X st a w) {hp : List (Nat × Obj)} {e : Ext} {l : Nat} {ms Ds : List Nat} {n0 : Nat} {r o' : Loop} (c : CJ X hp e l (.loop r) ms n0 w3) {Dm : Nat} (hms : ms = Dm :: Ds) (hnd : ms.Nodup) (ha : a.defers = Ds.map mark) : G (X.withE e) ⟨st.sl, hp⟩ { a with defers := [mark Dm] ++ a.defers } (w3.putObj l (.loop o')) := by
  have hne : ∀ p ∈ hp, p.1 ≠ l := fun p hpp => def_ne (fun p hp => (c.hh p hp).1) c.nd c.rc rfl hpp
  have hml : ∀ D ∈ ms, D ≠ l := fun D hD e => by
    have := c.ms D hD
    rw [e, c.rc] at this
    cases this
  have hlt : l < w3.heap.size := (Array.getElem?_eq_some_iff.1 c.rc).1
  refine ⟨⟨ms, by rw [hms, ha]; rfl, hnd, fun D hD => ⟨(putObj_block (hml D hD)).trans (c.ms D hD), (c.mx D hD).1, (c.mx D hD).2.1, (c.mx D hD).2.2.1⟩⟩, g.sz, g.sl, fun p hpp => ⟨(putObj_block (hne p hpp)).trans (c.hh p hpp).1, (c.hh p hpp).2⟩, c.ne, c.nd, c.kp.putObj _ fun h => by have := c.lx.2.2.2; omega, ⟨e.stab _ _ c.ex.J ((Kept.refl _ w3).putObj _ fun _ => ⟨c.lx.2.1, c.lx.2.2.1⟩), c.ex.hp, by rw [putObj_size]; exact c.ex.n0⟩⟩
theorem g_Q {X : Cx} {st : St} {a : Act} {w : World} {Q : Exit → Act → World → Prop} (g : G X st a w) : G { X with Q := Q } st a w := ⟨g.df, g.sz, g.sl, g.hp, g.ne, g.nd, g.kp, g.ex⟩

/-- A range over a function. -/
theorem run_range {X : Cx} {k : List KI} {st : St} {σ τ : Type} (gf : FuncId) (caps : Array Value) (ps : List Tmp) (own rest : List (Nat × Obj)) (Pin : (Nat → Prop) → World → Prop) (Pre Fin : List (List Value) → Prop) (h : headRange k st = some (.func (.func gf) #[] caps, ps)) (hrd : X.rd = none) (hX : X.lo = X.B.heap.size)
    (hgo : ∀ l, qrun X.P (invoke (.fn (.func gf) caps) #[.func (.yield l) #[] #[]]) = some (.enter gf (#[.func (.yield l) #[] #[]] ++ caps))) (hhp : st.hp = own ++ rest) (hps : ps.all (fun p => Nat.blt p X.N) = true) (hlen : ∀ pre x, Pre (pre ++ [x]) → x.length = ps.length) (hg : Gives X.P gf caps own Pin Pre Fin) (hPin : ∀ D w, Kept X.M X.B w → (∀ b, b < X.B.heap.size → D b → X.M b) → Pin D w)
    (S : σ → List (Nat × Obj)) (E : σ → Ext) (I : List (List Value) → σ → Prop) (Sx : τ → List (Nat × Obj)) (Ex : τ → Ext) (Ix : Code → τ → Prop) (x0 : σ) (h0 : I [] x0) (hs0 : S x0 = rest) (hE0 : E x0 = X.E)
    (hDM : ∀ pre s, I pre s → (E s).n0 = X.E.n0 ∧ ∀ b, b < X.B.heap.size → (E s).D b → X.M b) (hDx : ∀ c y, Ix c y → (Ex y).n0 = X.E.n0)
    (round : ∀ pre x s, Pre (pre ++ [x]) → I pre s → ∀ (l : Nat) (ms : List Nat) (r b : Obj) (w1 : World) (Jb Jn : Act → World → Prop) (Je : Code → Act → World → Prop), (∀ w, Kept (RM (S s) (E s) l) w1 w → Kept X.M X.B w) → ((¬ (E s).D l ∧ ∀ D ∈ ms, ¬ (E s).D D) ∧ X.B.heap.size ≤ w1.heap.size) →
      (∀ st1, Run (XR X l ms b w1 (S s) (E s) (roundQ Jn Je)) [.code (rangeB k)] st1 → ∀ a w, G (XR X l ms r w1 (S s) (E s) (fun _ _ _ => False)) st1 a w → Jb a w) →
      (∀ s' sl, I (pre ++ [x]) s' → (∀ b, (E s').D b → (E s).D b ∨ w1.heap.size ≤ b) → ∀ a w, G ((XR X l ms b w1 (S s) (E s) (roundQ Jn Je)).withE (rE (E s') l b ms)) ⟨sl, S s'⟩ a w → Jn a w) →
      (∀ c y sl, Ix c y → (c = .ret ∨ ∃ id, c = .exit id) → (∀ b, (Ex y).D b → (E s).D b ∨ w1.heap.size ≤ b) → ∀ a w, G ((XR X l ms b w1 (S s) (E s) (roundQ Jn Je)).withE (rE (Ex y) l b ms)) ⟨sl, Sx y⟩ a w → Je c a w) →
      Run (XR X l ms r w1 (S s) (E s) (fun _ _ _ => False)) [.code (rangeA k), .lp Jb] (parSt ps x ⟨st.sl, S s⟩))
    (hdone : ∀ ys s, Fin ys → I ys s → Run (X.withE (E s)) k.tail ⟨st.sl, S s⟩) (hstop : ∀ c y, Ix c y → Run (X.withE (Ex y)) (.code c :: k.tail) ⟨st.sl, Sx y⟩) : Run X k st := by
  unfold headRange at h
  split at h
  · rename_i g psa assign body k'
    cases hc : (match g with | .tmp t => (look st.sl t).isSome | _ => true) with
    | false => rw [hc] at h; cases h
    | true =>
      rw [hc] at h
      injection h with h
      injection h with h1 h2
      subst h2
      intro a w gg
      have hev := (gg.eval hc).trans h1
      refine wpIn_rangeFunc fun fn hfn => ?_
      obtain ⟨Ds, d1, d2, d3⟩ := gg.df
      have hFr : X.F.round = none := hrd
      rw [hFr]
      obtain ⟨rec, hrec⟩ : ∃ rec : LoopState → Option Code → Loop, rec = fun s pe => { state := s, pending := pe, fn, tmps := a.tmps, params := psa, assign, body, defers := w.heap.size } := ⟨_, rfl⟩
      obtain ⟨W1, hW1⟩ : ∃ W1, (w.alloc (.deferred (some []))).alloc (.loop (rec .ready none)) = W1 := ⟨_, rfl⟩
      have k1 : Keeps w W1 := by rw [← hW1]; exact ((Keeps.refl w).alloc _).alloc _
      have hL1 : W1.heap[w.heap.size + 1]? = some (.loop (rec .ready none)) := by
        rw [← hW1]; have := World.alloc_heap_new (w.alloc (.deferred (some []))) (.loop (rec .ready none)); rwa [World.size_alloc] at this
      have hK1 : W1.heap[w.heap.size]? = some (.deferred (some [])) := by
        rw [← hW1]; exact (Below.heap_alloc _ _ _ (by simp)).trans (World.alloc_heap_new w _)
      have hsz : W1.heap.size = w.heap.size + 2 := by rw [← hW1]; simp
      have hB := gg.kp.size
      obtain ⟨l, hl⟩ : ∃ l, l = w.heap.size + 1 := ⟨_, rfl⟩
      obtain ⟨ms, hms⟩ : ∃ ms, ms = w.heap.size :: Ds := ⟨_, rfl⟩
      obtain ⟨n0, hn0⟩ : ∃ n0, n0 = W1.heap.size := ⟨_, rfl⟩
      have g1 := gg.world k1
      have hEl : ¬ X.E.D (w.heap.size + 1) := fun h => by have := X.E.lt _ _ gg.ex.J h; omega
      have hEm : ¬ X.E.D w.heap.size := fun h => by have := X.E.lt _ _ gg.ex.J h; omega
      have c0 : CJ X rest X.E l (.loop (rec .ready none)) ms n0 W1 := by
        have hsub : ∀ p ∈ rest, p ∈ st.hp := fun p hp => by rw [hhp]; exact List.mem_append_right _ hp
        refine ⟨fun p hp => g1.hp p (hsub p hp), ?_, fun p hp => g1.nd p (hsub p hp), g1.kp, ⟨g1.ex.J, fun p hp => g1.ex.hp p (hsub p hp), g1.ex.n0⟩, by rw [hl]; exact hL1, fun D hD => ?_, fun D hD => ?_, ?_, Nat.le_of_eq hn0⟩
        · have := gg.ne
          rw [hhp, List.pairwise_append] at this
          exact this.2.1
        · rw [hms] at hD
          rcases List.mem_cons.1 hD with rfl | hD
          · exact hK1
          · exact (k1.heap (Array.getElem?_eq_some_iff.1 (d3 D hD).1).1).trans (d3 D hD).1
        · rw [hms] at hD
          have := gg.ex.n0
          rcases List.mem_cons.1 hD with rfl | hD
          · exact ⟨by omega, this, hEm, by omega⟩
          · obtain ⟨e1, e2, e3, e4⟩ := d3 D hD
            have := (Array.getElem?_eq_some_iff.1 e1).1
            exact ⟨e2, e3, e4, by omega⟩
        · have := gg.ex.n0
          exact ⟨by omega, by omega, by rw [hl]; exact hEl, by omega⟩
      have hnot : ∀ {hp : List (Nat × Obj)} {e : Ext} {o : Obj} {w1 : World}, CJ X hp e l o ms n0 w1 → isDef o = true → (∀ p ∈ hp, p.1 ≠ l) ∧ ∀ p ∈ hp, p.1 ∉ ms := fun {hp e o w1} c ho => ⟨fun p hp => def_ne (fun p hp => (c.hh p hp).1) c.nd c.rc ho hp, fun p hp hm => def_ne (fun p hp => (c.hh p hp).1) c.nd (c.ms _ hm) rfl hp rfl⟩
      obtain ⟨JJ, hJJ⟩ : ∃ JJ : List (List Value) → Ext → Prop, JJ = fun pre e => ∃ s, I pre s ∧ e = mkE X (S s) (E s) l (.loop (rec .ready none)) ms n0 := ⟨_, rfl⟩
      obtain ⟨Jx, hJx⟩ : ∃ Jx : Ext → Prop, Jx = fun e => ∃ c y, Ix c y ∧ e = mkE X (Sx y) (Ex y) l (.loop (rec .done (some c))) ms n0 := ⟨_, rfl⟩
      have hcall := hg l JJ Jx (mkE X rest X.E l (.loop (rec .ready none)) ms n0) W1 hn0 (by rw [hJJ]; exact ⟨x0, h0, by rw [hs0, hE0]⟩) c0 (fun p hp => (g1.hp p (by rw [hhp]; exact List.mem_append_left _ hp)).1) (fun p hp hD => ?_) (hPin _ _ g1.kp fun b hb hD => ?_) ?_
      rotate_left
      · -- the iterator's own blocks are not among those of others
        have hpm : p ∈ st.hp := by rw [hhp]; exact List.mem_append_left _ hp
        rcases hD with ⟨o, ho⟩ | hD | hD
        · have := gg.ne
          rw [hhp, List.pairwise_append] at this
          exact this.2.2 p hp _ ho rfl
        · exact def_ne (fun p hp => (g1.hp p hp).1) g1.nd (by rw [hl]; exact hL1) rfl hpm hD
        · exact (gg.ex.hp p hpm).2 hD
      · rcases hD with ⟨o, ho⟩ | hD | hD
        · exact (c0.hh _ ho).2 hb
        · exact absurd hb (by rw [hD]; exact Nat.not_lt.2 c0.lx.2.2.2)
        · exact (hDM [] x0 h0).2 b hb (by rw [hE0]; exact hD)
      · -- one round
        rintro pre x e w1 hpre hj _ hJ
        rw [hJJ] at hj
        obtain ⟨s, hI, rfl⟩ := hj
        have c1 : CJ X (S s) (E s) l (.loop (rec .ready none)) ms n0 w1 := hJ
        have hxl := hlen pre x hpre
        obtain ⟨hEn, hEM⟩ := hDM pre s hI
        have hy := Go.run_yield (P := X.P) (args := x.toArray) (r := rec .ready none) c1.rc (by rw [hrec]; simpa using hxl)
        have hn := hnot c1 rfl
        have hkk : ∀ w, Kept (RM (S s) (E s) l) w1 w → Kept X.M X.B w := fun w hw => c1.kp.trans hw fun b hb hm => by
          rcases hm with ⟨o, ho⟩ | rfl | hD
          · exact (c1.hh _ ho).2 hb
          · have := c1.lx.2.2.2
            omega
          · exact hEM b hb hD
        obtain ⟨Jn, hJn⟩ : ∃ Jn : Act → World → Prop, Jn = fun a w => ∃ s' sl', I (pre ++ [x]) s' ∧ (∀ b, (E s').D b → (E s).D b ∨ w1.heap.size ≤ b) ∧ G ((XR X l ms (.loop (rec .busy none)) w1 (S s) (E s) (fun _ _ _ => False)).withE (rE (E s') l (.loop (rec .busy none)) ms)) ⟨sl', S s'⟩ a w := ⟨_, rfl⟩
        obtain ⟨Je, hJe⟩ : ∃ Je : Code → Act → World → Prop, Je = fun c a w => ∃ y sl', Ix c y ∧ (∀ b, (Ex y).D b → (E s).D b ∨ w1.heap.size ≤ b) ∧ G ((XR X l ms (.loop (rec .busy none)) w1 (S s) (E s) (fun _ _ _ => False)).withE (rE (Ex y) l (.loop (rec .busy none)) ms)) ⟨sl', Sx y⟩ a w := ⟨_, rfl⟩
        have hfin : ∀ (c : Option Code) (a3 : Act) (w3 : World), (match c with | none => Jn a3 w3 | some c => Je c a3 w3) → ∃ v w', (Instr.endRound l c).run X.P w3 = .ok v w' ∧ ∃ E', E'.n0 = n0 ∧ E'.J w' ∧ Kept (RM (S s) (E s) l) w1 w' ∧ (∀ b, E'.D b → RM (S s) (E s) l b ∨ w1.heap.size ≤ b) ∧ ((Ending.returned v = .returned (.bool true) ∧ JJ (pre ++ [x]) E') ∨ (Ending.returned v = .returned (.bool false) ∧ Jx E')) := by
          intro c a3 w3 hc
          cases c with
          | none =>
            rw [hJn] at hc
            obtain ⟨s', sl', i1, i2, i3⟩ := hc
            have hrc : w3.heap[l]? = some (.loop (rec .busy none)) := i3.ex.J.2.1
            obtain ⟨q1, q2, q3⟩ := round_end (o' := rec .ready none) c1 hEM ((hDM _ s' i1).1.trans hEn.symm) i2 i3
            refine ⟨_, _, run_endRound none hrc, mkE X (S s') (E s') l (.loop (rec .ready none)) ms n0, rfl, ?_, ?_, q3, .inl ⟨rfl, by rw [hJJ]; exact ⟨s', i1, rfl⟩⟩⟩
            · have e1 : ({ rec .busy none with state := if (none : Option Code).isNone then LoopState.ready else LoopState.done, pending := none } : Loop) = rec .ready none := by rw [hrec]; rfl
              rw [e1]
              exact q1
            · have e1 : ({ rec .busy none with state := if (none : Option Code).isNone then LoopState.ready else LoopState.done, pending := none } : Loop) = rec .ready none := by rw [hrec]; rfl
              rw [e1]
              exact q2
          | some c =>
            rw [hJe] at hc
            obtain ⟨y, sl', i1, i2, i3⟩ := hc
            have hrc : w3.heap[l]? = some (.loop (rec .busy none)) := i3.ex.J.2.1
            obtain ⟨q1, q2, q3⟩ := round_end (o' := rec .done (some c)) c1 hEM ((hDx c y i1).trans hEn.symm) i2 i3
            have e1 : ({ rec .busy none with state := if (some c).isNone then LoopState.ready else LoopState.done, pending := some c } : Loop) = rec .done (some c) := by rw [hrec]; rfl
            refine ⟨_, _, run_endRound (some c) hrc, mkE X (Sx y) (Ex y) l (.loop (rec .done (some c))) ms n0, rfl, ?_, ?_, q3, .inr ⟨rfl, by rw [hJx]; exact ⟨c, y, i1, rfl⟩⟩⟩
            · rw [e1]
              exact q1
            · rw [e1]
              exact q2
        have hbeg : ∀ st1, Run (XR X l ms (.loop (rec .busy none)) w1 (S s) (E s) (roundQ Jn Je)) [.code body] st1 → ∀ a w, G (XR X l ms (.loop (rec .ready none)) w1 (S s) (E s) (fun _ _ _ => False)) st1 a w → ∃ w₂, (Instr.beginRound l).run X.P w = .ok () w₂ ∧ body.wpIn (Fence.wide.inRound l) 0 X.P (roundPost X.P l fun e w' => ∃ E', E'.n0 = n0 ∧ E'.J w' ∧ Kept (RM (S s) (E s) l) w1 w' ∧ (∀ b, E'.D b → RM (S s) (E s) l b ∨ w1.heap.size ≤ b) ∧ ((e = .returned (.bool true) ∧ JJ (pre ++ [x]) E') ∨ (e = .returned (.bool false) ∧ Jx E'))) a w₂ := by
          intro st1 hr1 a3 w3 g3
          have hrc : w3.heap[l]? = some (.loop (rec .ready none)) := g3.ex.J.2.1
          refine ⟨_, run_beginRound hrc (by rw [hrec]), ?_⟩
          have e1 : ({ rec .ready none with state := LoopState.busy } : Loop) = rec .busy none := by rw [hrec]
          rw [e1]
          have h5 := hr1 a3 _ (g_rec (Q' := roundQ Jn Je) (b := rec .busy none) g3 ⟨c1.lx.2.1, c1.lx.2.2.1⟩)
          refine wpIn_mono (show body.wpIn (Fence.wide.inRound l) 0 X.P (roundQ Jn Je) a3 _ from h5) fun e a w h => ?_
          cases e with
          | normal => exact hfin none a w h
          | ret => exact hfin (some .ret) a w h
          | exit id => exact hfin (some (.exit id)) a w h
          | goto t => exact h.elim
          | panic c => exact h.elim
          | outgrown => exact h.elim
        have h6 := round pre x s hpre hI l ms (.loop (rec .ready none)) (.loop (rec .busy none)) w1 _ Jn Je hkk ⟨⟨c1.lx.2.2.1, fun D hD => (c1.mx D hD).2.2.1⟩, c1.kp.size⟩ hbeg (fun s' sl i1 i2 a w g => by rw [hJn]; exact ⟨s', sl, i1, i2, g_Q g⟩) (fun c y sl i1 _ i2 a w g => by rw [hJe]; exact ⟨y, sl, i1, i2, g_Q g⟩)
        have g0 : G (XR X l ms (.loop (rec .ready none)) w1 (S s) (E s) (fun _ _ _ => False)) ⟨st.sl, S s⟩ { tmps := a.tmps, defers := [] } w1 := ⟨Mk.none rfl, gg.sz, gg.sl, fun p hp => ⟨(c1.hh p hp).1, fun _ => .inl ⟨p.2, hp⟩⟩, c1.ne, c1.nd, Kept.refl _ _, ⟨⟨c1.ex.J, c1.rc, c1.ms⟩, fun p hp => ⟨(c1.ex.hp p hp).1, fun hD => by
          rcases hD with hD | hD | hD
          · exact hn.1 p hp hD
          · exact hn.2 p hp hD
          · exact (c1.ex.hp p hp).2 hD⟩, c1.ex.n0⟩⟩
        have g2 := par_ok (l := psa.toList.zip x) g0 (fun p hp => by
          have h7 := List.all_eq_true.1 hps p.1 (List.of_mem_zip hp).1
          exact Nat.le_of_ble_eq_true h7)
        rw [fold_put] at g2
        have h8 := h6 _ _ g2
        refine ⟨fn, _, assign, body, by rw [hrec] at hy; exact hy, roundIn_of_wpIn trivial ?_⟩
        have e2 : (psa.zip x.toArray).foldl (fun tmps (x : Tmp × Value) => tmps.setIfInBounds x.1 x.2) a.tmps = (psa.toList.zip x).foldl (fun t p => t.setIfInBounds p.1 p.2) a.tmps := by
          rw [← Array.foldl_toList, Array.toList_zip]
        rw [hrec]
        show assign.wpIn (Fence.wide.inRound l) 0 X.P _ { tmps := (psa.zip x.toArray).foldl (fun tmps (x : Tmp × Value) => tmps.setIfInBounds x.1 x.2) a.tmps, defers := [] } w1
        rw [e2]
        exact h8
      · refine ⟨l, [mark w.heap.size], W1, { target := .fn (.func gf) caps, args := #[.func (.yield l) #[] #[]] }, W1, gf, #[.func (.yield l) #[] #[]] ++ caps, W1, ?_, ?_, fun _ _ => trivial, qrun_run (hgo l) W1, fun h => by simp [Cx.F, Fence.wide] at h, ?_⟩
        · rw [hl, ← hW1, hrec]
          exact run_enterLoop_outer _ _ _ _ _
        · simp only [resolve, hev]
          simp [go_sem]
        · have h9 : CallsIn Fence.wide (X.n - 1) X.P gf (#[.func (.yield l) #[] #[]] ++ caps) W1 _ := callsIn_wide.2 hcall
          refine CallsIn.mono (F := X.F) h9 fun e w3 ⟨he, E', hE1, hE2, hE3⟩ => ?_
          subst he
          have hnd : ms.Nodup := by
            rw [hms, List.nodup_cons]
            refine ⟨fun hm => ?_, d2⟩
            have := (Array.getElem?_eq_some_iff.1 (d3 _ hm).1).1
            omega
          rcases hE3 with ⟨ys, hfin, hj⟩ | hj
          · rw [hJJ] at hj
            obtain ⟨s, hI, rfl⟩ := hj
            have c3 : CJ X (S s) (E s) l (.loop (rec .ready none)) ms n0 w3 := hE2
            refine ⟨_, _, run_endLoop c3.rc (by rw [hrec]; simp), ?_⟩
            have h10 := hdone ys s hfin hI _ _ (range_end (o' := { rec .ready none with state := .exhausted }) gg c3 hms hnd d1)
            rw [wpK_E] at h10
            rw [hrec] at h10 ⊢
            exact h10
          · rw [hJx] at hj
            obtain ⟨c, y, hI, rfl⟩ := hj
            have c3 : CJ X (Sx y) (Ex y) l (.loop (rec .done (some c))) ms n0 w3 := hE2
            refine ⟨_, _, run_endLoop c3.rc (by rw [hrec]; simp), ?_⟩
            have h10 := hstop c y hI _ _ (range_end (o' := { rec .done (some c) with state := .exhausted }) gg c3 hms hnd d1)
            rw [wpK_E] at h10
            rw [hrec] at h10 ⊢
            exact h10
  · cases h
end Go.Proofs.Ytmiobcnccbfknaa
