/-
  WARM: a stronger word between an iterator and a loop over it (an iterator that loops itself needs it); reach, over such an iterator.
  WARM: reach, over an iterator that loops itself.
-/
import Derived.RangeFuncNested
import Derived.Test.YtmhpgjlegajpeaaB3
namespace Go.Proofs.Ytmhpgjlegajpeaa
open Go.RowKit Go.Shelf
attribute [local go_sem] Oper.semAt_some

/-- All blocks but l and those of X are as they were. -/
structure KeepA (X : Nat → Prop) (l : Nat) (W W' : World) : Prop where
  size : W.heap.size ≤ W'.heap.size
  same : ∀ k o, W.heap[k]? = some o → ¬ X k → k ≠ l → W'.heap[k]? = some o
theorem KeepA.trans {X : Nat → Prop} {l : Nat} {A B C : World} (h : KeepA X l A B) (k : KeepA X l B C) : KeepA X l A C := ⟨Nat.le_trans h.size k.size, fun i o hi hx hl => k.same i o (h.same i o hi hx hl) hx hl⟩
theorem KeepA.putObj {X : Nat → Prop} (W : World) (l : Nat) (o : Obj) : KeepA X l W (W.putObj l o) := ⟨(grownBy_putObj' W l o).size, fun _ _ hk _ hl => (World.putObj_heap_other hl).trans hk⟩
theorem KeepA.setCell {X : Nat → Prop} {l : Nat} (A : World) {p : Addr} (v : Value) (hx : X p.block) : KeepA X l A (A.setCell p v) :=
  ⟨by simp [World.setCell], fun k _ hk hX _ => (Below.heap_setCell _ _ _ _ (fun e => hX (by rw [e]; exact hx))).trans hk⟩
theorem KeepA.toX {X : Nat → Prop} {l : Nat} {A B : World} (h : KeepA X l A B) : KeepX (fun k => X k ∨ k = l) A B := ⟨h.size, fun k o hk _ hx => h.same k o hk (fun hX => hx (.inl hX)) (fun e => hx (.inr e))⟩
/-- The iterator gives a list of S, whatever a loop whose rounds all go on does with it, as long as each leaves all blocks but l and those of X. -/
def SeqS (n : Nat) (g : Nat) (lb : Array Value) (X : Nat → Prop) (S : List Int → Prop) (N : Nat) (w : World) : Prop :=
  ∀ (l : Nat) (J : List Int → World → Prop) (W : World), Keeps w W → w.heap.size ≤ l → l < W.heap.size → OwnFrom W.heap.size J →
    (∀ pre x W1, J pre W1 → pre.length < N → YieldAt Fence.wide (n - 1) Try.prog l #[.int .i64 x] W1 fun e W' => e = .returned (.bool true) ∧ J (pre ++ [x]) W' ∧ KeepA X l W1 W') →
    J [] W → CallsIn Fence.wide n Try.prog g (#[.func (.yield l) #[] #[]] ++ lb) W fun e W' => (∃ v, e = .returned v) ∧ ∃ xs, S xs ∧ J xs W'

/-- Deferred blocks of loops that are over. -/
def coll (Ds : List Nat) : List Deferred := Ds.map fun D => { target := .collected D, args := #[] }
def CollAt (n0 : Nat) (Ds : List Nat) (w : World) : Prop := Ds.Nodup ∧ ∀ D ∈ Ds, n0 ≤ D ∧ w.heap[D]? = some (.deferred (some []))
theorem leaves_coll {F : Fence} {n : Nat} {P : Program} {fn : Func} {tmps : Array Value} {R : Ending → World → Prop} {n0 : Nat} (Φ : World → Prop) (hΦ : ∀ w D, Φ w → n0 ≤ D → w.heap[D]? = some (.deferred (some [])) → Φ (w.putObj D (.deferred none))) :
    ∀ (Ds : List Nat) (w : World), CollAt n0 Ds w → Φ w → (∀ w', Φ w' → LeavesIn F n P fn tmps R [] .returning w') → LeavesInM F n P fn tmps R (coll Ds) .returning w
  | [], w, _, h0, h => h w h0
  | D :: Ds, w, hc, h0, h => by
    have hD := (hc.2 D (by simp)).2
    have hn := List.nodup_cons.1 hc.1
    refine ⟨by simp, .inl ⟨D, _, rfl, run_takeDeferred hD, leaves_coll Φ hΦ Ds _ ⟨hn.2, fun E hE => ⟨(hc.2 E (by simp [hE])).1, ?_⟩⟩ (hΦ w D h0 (hc.2 D (by simp)).1 hD) h⟩⟩
    exact (World.putObj_heap_other (fun e => hn.1 (by rw [← e]; exact hE))).trans (hc.2 E (by simp [hE])).2
theorem CollAt.keep {n0 : Nat} {Ds : List Nat} {w w' : World} (h : CollAt n0 Ds w) (k : ∀ D ∈ Ds, w'.heap[D]? = w.heap[D]?) : CollAt n0 Ds w' := ⟨h.1, fun D hD => ⟨(h.2 D hD).1, (k D hD).trans (h.2 D hD).2⟩⟩
theorem CollAt.lt {n0 : Nat} {Ds : List Nat} {w : World} (h : CollAt n0 Ds w) {D : Nat} (hD : D ∈ Ds) : D < w.heap.size := (Array.getElem?_eq_some_iff.1 (h.2 D hD).2).1
theorem CollAt.cons {n0 : Nat} {Ds : List Nat} {w : World} (h : CollAt n0 Ds w) {D m : Nat} (hm : ∀ E ∈ Ds, E < m) (hD : m ≤ D) (h0 : n0 ≤ D) (hw : w.heap[D]? = some (.deferred (some []))) : CollAt n0 (D :: Ds) w :=
  ⟨List.nodup_cons.2 ⟨fun hx => by have := hm D hx; omega, h.1⟩, fun E hE => by
    rcases List.mem_cons.1 hE with e | e
    · subst e; exact ⟨h0, hw⟩
    · exact h.2 E e⟩
theorem roundIn_wide {n m : Nat} {P : Program} {l l' : Nat} {f : FuncId} {tmps : Array Value} {assign body : Code} {w : World} {R : Ending → World → Prop} (h : RoundIn Fence.wide n P l f tmps assign body w R) : RoundIn (Fence.wide.inRound l') m P l f tmps assign body w R :=
  ⟨h.1, fun c cs _ => h.2 c cs (room_wide _)⟩

section
variable {n : Nat} {Q : Exit → Act → World → Prop} {a : Act} {w : World}
/-- A loop over such an iterator whose rounds all go on. -/
theorem wpIn_rangeFunc_all {o : Operand} {q : Nat} {assign body : Code} (h1 : 1 ≤ n) {g : Nat} {lb : Array Value} (hg : a.eval o = .func (.func g) #[] lb) (eg : ∀ args w, (callFunc g args).run Try.prog w = .ok (.enter g args) w)
    {X : Nat → Prop} {S : List Int → Prop} {N : Nat} {w0 : World} (hseq : SeqS (n - 1) g lb X S N w0) (hb0 : Keeps w0 w)
    (I : List Int → World → Prop) (hI : OwnFrom w.heap.size I) (h0 : I [] w) (a1 : Int → Act)
    (hassign : ∀ (l : Nat) (x : Int) (W : World) (K : Act → World → Prop), K (a1 x) W →
      assign.wpIn (Fence.wide.inRound l) (n - 1 - 1) Try.prog (Exit.then K (fun _ _ _ => False)) { tmps := a.tmps.setIfInBounds q (.int .i64 x), defers := [] } W)
    (hbody : ∀ (l : Nat) (pre : List Int) (x : Int) (W : World), I pre W → pre.length < N →
      body.wpIn (Fence.wide.inRound l) (n - 1 - 1) Try.prog (fun e _ W' => e = .normal ∧ KeepsOthers W W' ∧ KeepX X W W' ∧ I (pre ++ [x]) W') (a1 x) W)
    (hdone : ∀ (D : Nat) (xs : List Int) (W : World), w.heap.size ≤ D → S xs → I xs W → W.heap[D]? = some (.deferred (some [])) → Q .normal { a with defers := { target := .collected D, args := #[] } :: a.defers } W) :
    (Code.rangeFunc o #[q] assign body).wpIn Fence.wide n Try.prog Q a w := by
  refine wpIn_rangeFunc fun fn _ => ?_
  generalize hb : w.heap.size = b
  rw [hb] at hI hdone
  have kw : Keeps w (((w.alloc (.deferred (some []))).alloc (.loop { state := .ready, pending := none, fn, tmps := a.tmps, params := #[q], assign, body, defers := b }))) := ((Keeps.refl w).alloc _).alloc _
  obtain ⟨V, hV⟩ : ∃ V, (w.alloc (.deferred (some []))).alloc (.loop { state := .ready, pending := none, fn, tmps := a.tmps, params := #[q], assign, body, defers := b }) = V := ⟨_, rfl⟩
  have hs : V.heap.size = b + 2 := by rw [← hV, ← hb]; simp
  have hd : V.heap[b]? = some (.deferred (some [])) := by rw [← hV, ← hb]; exact (Below.heap_alloc _ _ _ (by simp)).trans (World.alloc_heap_new w _)
  have hl : V.heap[b + 1]? = some (.loop { state := .ready, pending := none, fn, tmps := a.tmps, params := #[q], assign, body, defers := b }) := by
    have := World.alloc_heap_new (w.alloc (.deferred (some []))) (.loop { state := .ready, pending := none, fn, tmps := a.tmps, params := #[q], assign, body, defers := b })
    rw [World.size_alloc, hb] at this
    rw [← hV]; exact this
  rw [hV] at kw
  have hIV : I [] V := hI [] w V none h0 ⟨kw.os, kw.tape, kw.output, kw.size, fun _ hi _ => kw.heap hi⟩ (fun r e => by cases e)
  refine ⟨b + 1, [{ target := .collected b, args := #[] }], V, { target := .fn (.func g) lb, args := #[.func (.yield (b + 1)) #[] #[]] }, V, g, #[.func (.yield (b + 1)) #[] #[]] ++ lb, V, ?_, ?_, ?_, ?_, fun _ => h1, ?_⟩
  · rw [← hV, ← hb]; exact run_enterLoop_outer _ _ _ _ _
  · simp only [resolve, hg]; simp [go_sem]
  · intro f' hf'; trivial
  · simp [invoke, go_sem, eg]
  refine (hseq (b + 1) (fun pre W => I pre W ∧ W.heap[b + 1]? = some (.loop { state := .ready, pending := none, fn, tmps := a.tmps, params := #[q], assign, body, defers := b }) ∧ W.heap[b]? = some (.deferred (some []))) V (hb0.trans kw) (by have := hb0.size; omega) (by omega) ?_ ?_ ⟨hIV, hl, hd⟩).mono ?_
  · intro s A B row hs1 hg1 hr1
    have hb1 := (Array.getElem?_eq_some_iff.1 hs1.2.1).1
    refine ⟨hI s A B row hs1.1 hg1 (fun r e => ⟨by have := (hr1 r e).1; omega, (hr1 r e).2⟩), ?_, ?_⟩
    · exact (hg1.block (b + 1) hb1 (fun e => by have := (hr1 _ e.symm).1; omega)).trans hs1.2.1
    · exact (hg1.block b (by omega) (fun e => by have := (hr1 _ e.symm).1; omega)).trans hs1.2.2
  · rintro pre x W ⟨hi, hlW, hdW⟩ hN
    have hb1 := (Array.getElem?_eq_some_iff.1 hlW).1
    refine ⟨fn, a.tmps.setIfInBounds q (.int .i64 x), assign, body, ?_, roundIn_of_wpIn trivial (hassign _ x W _ ?_)⟩
    · have := run_yield (P := Try.prog) (args := #[.int .i64 x]) hlW rfl
      simpa using this
    refine ⟨_, run_beginRound hlW rfl, ?_⟩
    refine wpIn_mono (hbody (b + 1) pre x _ (hI.putObj _ hi (by omega) hlW rfl) hN) ?_
    rintro e a3 W3 ⟨rfl, h3, h4, h5⟩
    have hl2 := h3.same (b + 1) _ (World.putObj_heap_same hb1) rfl
    have hd2 := h3.same b _ ((World.putObj_heap_other (by omega)).trans hdW) rfl
    have hb2 := (Array.getElem?_eq_some_iff.1 hl2).1
    refine ⟨_, _, run_endRound none hl2, ?_⟩
    refine ⟨rfl, ⟨hI.putObj _ h5 (by omega) hl2 rfl, World.putObj_heap_same hb2, (World.putObj_heap_other (by omega)).trans hd2⟩, ?_⟩
    refine (KeepA.putObj W (b + 1) _).trans (KeepA.trans ⟨h4.size, fun k ob hk hx hne => ?_⟩ (KeepA.putObj W3 (b + 1) _))
    cases hc : ob.isCells with
    | true => exact h4.same k ob hk (.inl hc) hx
    | false => exact h3.same k ob hk hc
  · rintro e W2 ⟨⟨v, rfl⟩, xs, hS, hi, hlW, hdW⟩
    have hb1 := (Array.getElem?_eq_some_iff.1 hlW).1
    exact ⟨none, _, run_endLoop (P := Try.prog) hlW (by simp), hdone b xs _ (Nat.le_refl _) hS (hI.putObj _ hi (by omega) hlW rfl) ((World.putObj_heap_other (by omega)).trans hdW)⟩
end
end Go.Proofs.Ytmhpgjlegajpeaa

namespace Go.Proofs.Ytmhpgjlegajpeaa
open Go.RowKit Go.Shelf
attribute [local go_sem] Oper.semAt_some

set_option maxHeartbeats 3200000 in
theorem reach_all (G : Nat) (lb : Array Value) (S : List Int → Prop) (N : Nat) (lo hi : Int) (w : World) (hG : ∀ args w, (callFunc G args).run Try.prog w = .ok (.enter G args) w)
    (hseq : ∀ w0, Keeps w w0 → w.heap.size + 1 < w0.heap.size → SeqS 3 G lb (fun k => k = w.heap.size + 1) S N w0)
    (hS : ∀ ys, S ys → loI ys = lo ∧ hiI ys = hi) :
    Calls Try.prog 49 #[.func (.func G) #[] lb] w (Ret (.agg #[.int .i64 lo, .int .i64 hi]) w) := by
  have HS := Lib.hid hS
  have HQ := Lib.hid hseq
  clear hS hseq
  refine (callsIn_wide (n := 4)).1 ?_
  refine callsIn_of_wp_marks Try.func49 rfl trivial ?_ rfl
  simp only [Try.ntmps49, List.size_toArray, List.length_cons, List.length_nil, Nat.reduceAdd, Nat.reduceSub, Array.replicate_succ, Array.replicate_zero, List.push_toArray, List.append_toArray, List.nil_append, List.cons_append]
  gi_wp2_with fail
  obtain ⟨W0, hW0⟩ : ∃ W0, ((w.alloc (.cells #[.int .i64 0, .int .i64 0] 74)).alloc (.cells #[.int .i64 9223372036854775807, .int .i64 (-9223372036854775808)] 74)) = W0 := ⟨_, rfl⟩
  have k0 : Keeps w W0 := by rw [← hW0]; exact ((Keeps.refl _).alloc _).alloc _
  have hs0 : W0.heap.size = w.heap.size + 2 := by rw [← hW0]; simp
  have t0 : TwoI W0 w.heap.size 0 0 := by rw [← hW0]; constructor <;> simp [go_sem]
  have t1 : TwoI W0 (w.heap.size + 1) 9223372036854775807 (-9223372036854775808) := by rw [← hW0]; constructor <;> simp [go_sem]
  rw [hW0]
  refine wpIn_rangeFunc_all (by omega) (g := G) (lb := lb) rfl hG (HQ.out _ k0 (by omega)) (Below.refl _ _)
    (fun pre W => (TwoI W (w.heap.size + 1) (loI pre) (hiI pre) ∧ TwoI W w.heap.size 0 0) ∧ Keeps w W)
    (OwnFrom.and (OwnFrom.and (Own.from (TwoI.own _ _ _) _) (Own.from (TwoI.own _ _ _) _)) (ownFrom_keeps (by omega)))
    ⟨⟨t1, t0⟩, k0⟩
    (fun x => { tmps := #[.func (.func G) #[] lb, undef, .pointer (some ⟨w.heap.size, 0, none⟩), .pointer (some ⟨w.heap.size + 1, 0, none⟩), .int .i64 x, .agg #[.int .i64 9223372036854775807, .int .i64 (-9223372036854775808)], .func (.func G) #[] lb, .int .i64 x, undef, undef, undef, undef, undef, undef, undef, undef, undef, undef, undef], defers := [] }) ?assign ?body ?done
  case assign =>
    intro l x W K hK
    gi_wp2
    simpa using hK
  case body =>
    rintro l pre x W ⟨⟨h1, h0⟩, hB⟩ _
    have c0 := h1.c0
    have c1 := h1.c1
    have f0 := h1.f0
    have f1 := h1.f1
    gi_wp2
    all_goals exact reach_step h1 h0 hB (by omega) (by omega) (by omega) (by omega)
  case done =>
    rintro D ys W hD hys ⟨⟨h1, h0⟩, hB⟩ hK
    obtain ⟨e1, e2⟩ := HS.out ys hys
    rw [e1, e2] at h1
    have c0 := h1.c0
    have c1 := h1.c1
    have d0 := h0.c0
    have d1 := h0.c1
    have g0 := h0.f0
    have g1 := h0.f1
    gi_wp2
    have hK' := ((KeepsOthers.setCell W ⟨w.heap.size, 0, none⟩ (.int .i64 lo)).trans (KeepsOthers.setCell _ ⟨w.heap.size, 1, none⟩ (.int .i64 hi))).same D _ hK rfl
    have h2 := (h0.set0 lo).set1 hi
    have e0 := cell_kept h2.c0 (grownBy_putObj' _ D (.deferred none)) (fun r e => by cases e; exact ⟨_, hK', rfl⟩)
    have e1 := cell_kept h2.c1 (grownBy_putObj' _ D (.deferred none)) (fun r e => by cases e; exact ⟨_, hK', rfl⟩)
    refine ⟨by simp, .inl ⟨_, _, rfl, run_takeDeferred hK', ?_⟩⟩
    refine ⟨.agg #[.int .i64 lo, .int .i64 hi], ?_, rfl, keeps_putObj ((hB.setCell _ (Nat.le_refl _)).setCell _ (Nat.le_refl _)) _ (by omega)⟩
    simp [results, Try.f49, go_sem, e0, e1]
set_option maxHeartbeats 3200000 in
theorem reach_of (G : Nat) (lb : Array Value) (S Sp : List Int → Prop) (N : Nat) (lo hi : Int) (w : World) (hG : ∀ args w, (callFunc G args).run Try.prog w = .ok (.enter G args) w)
    (hseq : ∀ w0, Keeps w w0 → w.heap.size + 1 < w0.heap.size → SeqStopsK Fence.wide 3 Try.prog G lb (fun x : Int => #[.int .i64 x]) (KeepX (fun k => k = w.heap.size + 1)) S Sp N w0)
    (hS : ∀ ys, S ys → loI ys = lo ∧ hiI ys = hi) :
    Calls Try.prog 49 #[.func (.func G) #[] lb] w (Ret (.agg #[.int .i64 lo, .int .i64 hi]) w) := by
  have HS := Lib.hid hS
  have HQ := Lib.hid hseq
  clear hS hseq
  refine (callsIn_wide (n := 4)).1 ?_
  refine callsIn_of_wp_marks Try.func49 rfl trivial ?_ rfl
  simp only [Try.ntmps49, List.size_toArray, List.length_cons, List.length_nil, Nat.reduceAdd, Nat.reduceSub, Array.replicate_succ, Array.replicate_zero, List.push_toArray, List.append_toArray, List.nil_append, List.cons_append]
  gi_wp2_with fail
  obtain ⟨W0, hW0⟩ : ∃ W0, ((w.alloc (.cells #[.int .i64 0, .int .i64 0] 74)).alloc (.cells #[.int .i64 9223372036854775807, .int .i64 (-9223372036854775808)] 74)) = W0 := ⟨_, rfl⟩
  have k0 : Keeps w W0 := by rw [← hW0]; exact ((Keeps.refl _).alloc _).alloc _
  have hs0 : W0.heap.size = w.heap.size + 2 := by rw [← hW0]; simp
  have t0 : TwoI W0 w.heap.size 0 0 := by rw [← hW0]; constructor <;> simp [go_sem]
  have t1 : TwoI W0 (w.heap.size + 1) 9223372036854775807 (-9223372036854775808) := by rw [← hW0]; constructor <;> simp [go_sem]
  rw [hW0]
  refine wpIn_rangeFunc_ownF rfl (by omega) (gf := G) (lb := lb) rfl trivial hG (HQ.out _ k0 (by omega)) (fun h k => KeepX.trans h k) KeepX.putObj (Below.refl _ _) (fun _ => rfl)
    (fun pre W => (TwoI W (w.heap.size + 1) (loI pre) (hiI pre) ∧ TwoI W w.heap.size 0 0) ∧ Keeps w W)
    (fun _ _ _ => False)
    (OwnFrom.and (OwnFrom.and (Own.from (TwoI.own _ _ _) _) (Own.from (TwoI.own _ _ _) _)) (ownFrom_keeps (by omega)))
    (fun _ _ _ _ _ hs _ _ => hs)
    ⟨⟨t1, t0⟩, k0⟩
    (fun x => { tmps := #[.func (.func G) #[] lb, undef, .pointer (some ⟨w.heap.size, 0, none⟩), .pointer (some ⟨w.heap.size + 1, 0, none⟩), .int .i64 x, .agg #[.int .i64 9223372036854775807, .int .i64 (-9223372036854775808)], .func (.func G) #[] lb, .int .i64 x, undef, undef, undef, undef, undef, undef, undef, undef, undef, undef, undef], defers := [] }) ?assign ?body ?done ?stop
  case assign =>
    intro l x W K hK
    gi_wp2
    simpa using hK
  case body =>
    rintro l pre x W ⟨⟨h1, h0⟩, hB⟩ _
    have c0 := h1.c0
    have c1 := h1.c1
    have f0 := h1.f0
    have f1 := h1.f1
    gi_wp2
    all_goals exact reach_step h1 h0 hB (by omega) (by omega) (by omega) (by omega)
  case done =>
    rintro D ys W hD hys ⟨⟨h1, h0⟩, hB⟩ hK
    obtain ⟨e1, e2⟩ := HS.out ys hys
    rw [e1, e2] at h1
    have c0 := h1.c0
    have c1 := h1.c1
    have d0 := h0.c0
    have d1 := h0.c1
    have g0 := h0.f0
    have g1 := h0.f1
    gi_wp2
    have hK' := ((KeepsOthers.setCell W ⟨w.heap.size, 0, none⟩ (.int .i64 lo)).trans (KeepsOthers.setCell _ ⟨w.heap.size, 1, none⟩ (.int .i64 hi))).same D _ hK rfl
    have h2 := (h0.set0 lo).set1 hi
    have e0 := cell_kept h2.c0 (grownBy_putObj' _ D (.deferred none)) (fun r e => by cases e; exact ⟨_, hK', rfl⟩)
    have e1 := cell_kept h2.c1 (grownBy_putObj' _ D (.deferred none)) (fun r e => by cases e; exact ⟨_, hK', rfl⟩)
    refine ⟨by simp, .inl ⟨_, _, rfl, run_takeDeferred hK', ?_⟩⟩
    refine ⟨.agg #[.int .i64 lo, .int .i64 hi], ?_, rfl, keeps_putObj ((hB.setCell _ (Nat.le_refl _)).setCell _ (Nat.le_refl _)) _ (by omega)⟩
    simp [results, Try.f49, go_sem, e0, e1]
  case stop =>
    rintro D c pre W _ _ h _
    exact h.elim
end Go.Proofs.Ytmhpgjlegajpeaa
