/-
  ENGINE, fourteenth part: a call that panics in a region that draws its order; a call that writes to a block of its caller's; a call that makes a block; a loop's round by itself.
-/
import Derived.Test.YtmiobcnccbfknaaXD
namespace Go.Proofs.Ytmiobcnccbfknaa
open Go.RowKit

/-- There is no such state. -/
theorem run_void {X : Cx} {k : List KI} {sl : List (Nat × Value)} {b : Nat} {l : List (Nat × Obj)} : Run X k ⟨sl, (b, .deferred none) :: l⟩ := by
  intro a w g
  have := g.nd _ (List.mem_cons_self)
  cases this
section
variable {R : Rg} {X : Cx} {k : List KI} {i : Nat}
/-- What comes behind an operation that panics. -/
theorem tri_void (h : ∀ β, ∃ b l, R.nh i β = (b, .deferred none) :: l) : R.Tri X k i := by
  intro β w J extra _ _ _
  obtain ⟨b, l, e⟩ := h β
  rw [e]
  exact run_void
theorem tri_panics {fn : Func} {S : Ending → World → Prop} (hQ : X.Q = bodyPostM Fence.wide 2 X.P fn S) (hlo : X.B.heap.size ≤ X.lo) (f : FuncId) (args : (Nat → Nat) → Array Value) (c : List PanicEntry) (h : ∀ β extra, headCall X.P X.N [.ops R.ops [i]] ⟨R.ns i β ++ extra, R.nh i β⟩ = some (f, args β, R.dst i))
    (hc : ∀ β w, Kept X.M X.B w → Hp (R.nh i β) w → Calls X.P f (args β) w fun e w' => e = .panicked c ∧ Keeps w w') (hS : ∀ w, Kept X.M X.B w → S (.panicked c) w) : R.Tri X k i := by
  intro β w J extra hkp hm _
  have key : headCall X.P X.N [.ops R.ops [i], .lp J] ⟨R.ns i β ++ extra, R.nh i β⟩ = some (f, args β, R.dst i) := h β extra
  obtain ⟨s, hs, hq⟩ := headCall_is key
  intro a w1 g
  refine head_at (X := Xw X k w (R.nh i β)) hs g ?_
  rw [show s.run (Xw X k w (R.nh i β)).P w1 = _ from qrun_run hq w1]
  have k1 : Kept X.M X.B w1 := hkp.trans g.kp fun b hb ⟨o, ho⟩ => hm _ ho hb
  refine (hc β w1 k1 g.Hp).mono fun e w' ⟨he, hk⟩ => ?_
  subst he
  show wpK X k (.panic c) a w'
  rw [wpK_panic]
  have g2 : G X ⟨[], []⟩ a w' := ⟨g.df.turn fun D hD => hk.heap (Array.getElem?_eq_some_iff.1 hD).1, g.sz, fun t v ht => (by cases ht), fun _ h => (by cases h), List.Pairwise.nil, fun _ h => (by cases h), k1.then hk, ⟨(g.ex.keeps hk).J, fun _ h => (by cases h), (g.ex.keeps hk).n0⟩⟩
  exact g_panic g2 hlo hQ fun w2 h2 _ => hS w2 h2
/-- A store at a place that is not written out. -/
theorem tri_store (b : (Nat → Nat) → Nat) (off : Nat) (t : TypeId) (v : (Nat → Nat) → Value) (c c' : List Value) (e : TypeId) (hn : (R.p i).news = []) (hd : R.dst i = none) (h : ∀ β extra, headSem X.N [.ops R.ops [i]] ⟨R.ns i β ++ extra, R.nh i β⟩ = some ((do Instr.storeAt t (.pointer (some ⟨b β, off, none⟩)) (v β); pure .skip), none))
    (hh : ∀ β, R.nh i β = [(b β, .cells c.toArray e (0, 0))]) (ho : ∀ β, R.oh i β = [(b β, .cells c'.toArray e (0, 0))]) (hs : ∀ β, storeV X.P t c off (v β) = some c') : R.Tri X k i := by
  intro β w J extra hkp hm hJ
  have key : headSem X.N [.ops R.ops [i], .lp J] ⟨R.ns i β ++ extra, R.nh i β⟩ = some ((do Instr.storeAt t (.pointer (some ⟨b β, off, none⟩)) (v β); pure .skip), none) := h β extra
  refine run_store (X := Xw X k w (R.nh i β)) 0 (b β) off t (v β) c c' e key (by rw [hh]; rfl) (hs β) (nx_ok (k' := [.lp J]) rfl fun a' w' g => hJ β (fun _ _ => rfl) (fun id hid => by rw [hn] at hid; cases hid) (by rw [hn]; exact List.Pairwise.nil) a' w' ?_)
  rw [ho, hd]
  have g2 := g
  rw [show (⟨R.ns i β ++ extra, R.nh i β⟩ : St).hp.set 0 (b β, .cells c'.toArray e (0, 0)) = [(b β, .cells c'.toArray e (0, 0))] from by rw [hh]; rfl] at g2
  exact g2
end
/-- An element of an array. -/
theorem idxA_run {P : Program} {t e : TypeId} {n len : Nat} (hu : P.underlying t = some (.array len e)) (hs : tySize P e = some n) (b o : Nat) (k : IntKind) (i : Nat) (hi : i < len) (off : Nat) (ho : o + i * n = off) (w : World) :
    (Instr.indexAt t (.pointer (some ⟨b, o, none⟩)) (.int k (i : Int)) >>= fun v => pure (Next.value v)).run P w = .ok (.value (.pointer (some ⟨b, off, none⟩))) w := by
  subst ho
  have h1 := sizeOf_run hs w
  have h2 : (0 : Int) ≤ (i : Int) ∧ (i : Int) < (len : Int) := ⟨by omega, by omega⟩
  simp only [Instr.indexAt, asIntOf, Go.underlying, program, Instr.sureAddr, Sem.run_bind, Sem.run_pure, Result.andThen]
  simp [Sem.run, hu, h1, Result.andThen, add_none]
  simp [hi]
/-- It returns v, and the block b has turned into o. -/
def Wr (b : Nat) (v : Value) (o : Obj) (w : World) (e : Ending) (w' : World) : Prop := e = .returned v ∧ Kept (fun k => k = b) w w' ∧ w'.heap[b]? = some o
theorem run_wr {X : Cx} {k : List KI} {st : St} (f : FuncId) (args : Array Value) (d : Option Tmp) (v : Value) (j b : Nat) (o o' : Obj) (h : headCall X.P X.N k st = some (f, args, d)) (hj : st.hp[j]? = some (b, o)) (ho : isDef o' = false) (hc : ∀ w, Kept X.M X.B w → Hp st.hp w → Calls X.P f args w (Wr b v o' w))
    (hr : Run X (nextK k) ((⟨st.sl, st.hp.set j (b, o')⟩ : St).put d v)) : Run X k st := by
  refine run_call f args d h (fun _ : Unit => v) (fun _ => st.hp.set j (b, o')) (fun _ => True) (fun w k1 k2 k3 => (hc w k1 k2).mono fun e w' ⟨he, hk, hb⟩ => ⟨(), trivial, he, ?_⟩) (fun hnd _ _ p hp => ?_) (fun _ _ => hr)
  · refine ⟨hk.mono fun x hx => ⟨o, hx ▸ List.mem_of_getElem? hj⟩, fun p hp => ?_, pairwise_set k3 hj⟩
    obtain ⟨i, hi⟩ := List.mem_iff_getElem?.1 hp
    rw [List.getElem?_set] at hi
    split at hi
    · split at hi
      · injection hi with hi
        subst hi
        exact ⟨hb, .inl ⟨o, List.mem_of_getElem? hj⟩⟩
      · cases hi
    · rename_i hne
      have hpp := k2 p (List.mem_of_getElem? hi)
      exact ⟨(hk.block p.1 (Array.getElem?_eq_some_iff.1 hpp).1 (pairwise_ne k3 hi hj (Ne.symm hne))).trans hpp, .inl ⟨p.2, List.mem_of_getElem? hi⟩⟩
  · rcases List.mem_or_eq_of_mem_set hp with hp | rfl
    · exact hnd p hp
    · exact ho
/-- It returns a value with a new block. x is what is not known. -/
def Nw {α : Type} (V : α → Nat → Value) (O : α → Obj) (I : α → Prop) (w : World) (e : Ending) (w' : World) : Prop := ∃ x b, I x ∧ w.heap.size ≤ b ∧ e = .returned (V x b) ∧ Keeps w w' ∧ w'.heap[b]? = some (O x)
theorem run_nw {X : Cx} {k : List KI} {st : St} (f : FuncId) (args : Array Value) (d : Option Tmp) {α : Type} (V : α → Nat → Value) (O : α → Obj) (I : α → Prop) (h : headCall X.P X.N k st = some (f, args, d)) (ho : ∀ x, isDef (O x) = false) (hc : ∀ w, Kept X.M X.B w → Hp st.hp w → Calls X.P f args w (Nw V O I w))
    (hr : ∀ x b, I x → X.B.heap.size ≤ b → Run X (nextK k) ((⟨st.sl, (b, O x) :: st.hp⟩ : St).put d (V x b))) : Run X k st :=
  run_call f args d h (fun y : α × Nat => V y.1 y.2) (fun y => (y.2, O y.1) :: st.hp) (fun y => I y.1 ∧ X.B.heap.size ≤ y.2) (fun w k1 k2 k3 => (hc w k1 k2).mono fun e w' ⟨x, b, hx, hb, he, hk, hh⟩ => ⟨(x, b), ⟨hx, Nat.le_trans k1.size hb⟩, he, .more (new := [(b, O x)]) k2 k3 hk (fun p hp => by rw [List.mem_singleton] at hp; subst hp; exact ⟨hh, hb⟩) (List.pairwise_singleton _ _)⟩)
    (fun hnd y _ p hp => by rcases List.mem_cons.1 hp with rfl | hp; exact ho _; exact hnd p hp) (fun y hy => hr y.1 y.2 hy.1 hy.2)

/-- A call that makes a block, in a region that draws its order. -/
theorem tri_nw {R : Rg} {X : Cx} {k : List KI} {i : Nat} (nid : Nat) (V : (Nat → Nat) → Nat → Value) (O : (Nat → Nat) → Obj) (f : FuncId) (args : (Nat → Nat) → Array Value) (hn : (R.p i).news = [nid]) (h : ∀ β extra, headCall X.P X.N [.ops R.ops [i]] ⟨R.ns i β ++ extra, R.nh i β⟩ = some (f, args β, R.dst i)) (hO : ∀ β, isDef (O β) = false) (hv : ∀ β b, R.v i (updB β nid b) = V β b) (ho : ∀ β b, R.oh i (updB β nid b) = (b, O β) :: R.nh i β) (hb : ∀ β b, R.nm (updB β nid b) nid = b)
    (hc : ∀ β w, Kept X.M X.B w → Hp (R.nh i β) w → Calls X.P f (args β) w (Nw (α := Unit) (fun _ b => V β b) (fun _ => O β) (fun _ => True) w)) : R.Tri X k i := by
  intro β w J extra hkp hm hJ
  have key : headCall X.P X.N [.ops R.ops [i], .lp J] ⟨R.ns i β ++ extra, R.nh i β⟩ = some (f, args β, R.dst i) := h β extra
  refine run_nw (X := Xw X k w (R.nh i β)) f (args β) (R.dst i) (fun _ b => V β b) (fun _ => O β) (fun _ => True) key (fun _ => hO β) (fun w1 k1 k2 => hc β w1 (hkp.trans k1 fun b hb ⟨o, ho⟩ => hm _ ho hb) k2) fun _ b _ hbb => nx_ok (k' := [.lp J]) rfl fun a' w' g => hJ (updB β nid b) (fun id hid => ?_) (fun id hid => ?_) ?_ a' w' ?_
  · rw [hn] at hid
    have : (id == nid) = false := by simpa using hid
    unfold updB
    rw [this]
    rfl
  · rw [hn] at hid
    have : id = nid := by simpa using hid
    rw [this, hb]
    exact hbb
  · rw [hn]
    simp
  · rw [putL_put] at g
    rw [hv, ho]
    exact g
/-- From the beginning of a round on. -/
def LoopIn (F : Fence) (n : Nat) (P : Program) (c : Code) (Q : Exit → Act → World → Prop) (a : Act) (w : World) : Prop :=
  ∀ (b : Frame) (k : List Item) (cs : List Frame), b.roundOf = F.round → F.fn b.fn → F.room (cs.length + 1 + n) →
    ∃ e a' w', Q e a' w' ∧ ArrivesIn (Machine.fenced P F) P (lone (b.atR a (.code c :: .inLoop c :: k)) cs w) b k cs e a' w'
theorem LoopIn.loop {F : Fence} {n : Nat} {P : Program} {c : Code} {Q : Exit → Act → World → Prop} {a : Act} {w : World} (h : LoopIn F n P c Q a w) : (Code.loop c).wpIn F n P Q a w := fun b k cs hro hb hr =>
  let ⟨e, a', w', hq, harr⟩ := h b k cs hro hb hr
  ⟨e, a', w', hq, .of_steps (.one (fenced_calm hb hr rfl) stepR_loop) harr⟩
theorem LoopIn.once {F : Fence} {n : Nat} {P : Program} {c : Code} {Q : Exit → Act → World → Prop} {a : Act} {w : World} (h : c.wpIn F n P (Exit.then (LoopIn F n P c Q) Q) a w) : LoopIn F n P c Q a w := by
  intro b k cs hro hb hr
  obtain ⟨e, a₁, w₁, hq, harr⟩ := h b (.inLoop c :: k) cs hro hb hr
  cases e with
  | normal =>
    obtain ⟨e₂, a₂, w₂, hq₂, harr₂⟩ := hq b k cs hro hb hr
    exact ⟨e₂, a₂, w₂, hq₂, .of_steps (StepsIn.trans harr (.one (fenced_calm hb hr rfl) stepR_inLoop)) harr₂⟩
  | exit id => exact ⟨_, a₁, w₁, hq, .pass (x := .inLoop c) rfl (fun _ _ => .inl (by simp)) harr⟩
  | goto l => exact ⟨_, a₁, w₁, hq, .pass (x := .inLoop c) rfl (fun _ _ => .inl (by simp)) harr⟩
  | ret => exact ⟨_, a₁, w₁, hq, .pass (x := .inLoop c) rfl (fun _ _ => .inl (by simp)) harr⟩
  | panic ch => exact ⟨_, a₁, w₁, hq, .pass (x := .inLoop c) rfl (fun _ _ => .inl (by simp)) harr⟩
  | outgrown => exact ⟨_, a₁, w₁, hq, .pass (x := .inLoop c) rfl (fun _ _ => .inl (by simp)) harr⟩
/-- A loop, round by round. -/
theorem run_once {X : Cx} {k : List KI} {st : St} (hk : isLoop k = true) (h : ∀ J : Act → World → Prop, (∀ st', Run X (bodyK J k) st' → ∀ a w, G X st' a w → J a w) → Run X (bodyK J k) st) : Run X k st := by
  unfold isLoop at hk
  split at hk
  · rename_i c k'
    have key : ∀ st', Run X (bodyK (LoopIn X.F X.n X.P c (wpK X k')) (.code (.loop c) :: k')) st' → ∀ a w, G X st' a w → LoopIn X.F X.n X.P c (wpK X k') a w := fun st' hr a w g => LoopIn.once (wpIn_mono (hr a w g) fun e a w h => by cases e <;> exact h)
    exact fun a w g => (key st (h _ key) a w g).loop
  · cases hk
end Go.Proofs.Ytmiobcnccbfknaa
