/-
  ENGINE, ninth part: the operations of a region that draws its order, one by one.
-/
import Derived.Test.YtmiobcnccbfknaaX8
namespace Go.Proofs.Ytmiobcnccbfknaa
open Go.RowKit

section
variable {R : Rg} {X : Cx} {k : List KI} {i : Nat}
theorem putL_put (d : Option Tmp) (v : Value) (l : List (Nat × Value)) (hp : List (Nat × Obj)) : (⟨l, hp⟩ : St).put d v = ⟨putL d v l, hp⟩ := by cases d <;> rfl
theorem G.pick {st : St} {a : Act} {w : World} (h : G X st a w) {hk : List Nat} (hd : distinct hk = true) : G X ⟨st.sl, hk.filterMap fun j => st.hp[j]?⟩ a w :=
  ⟨h.df, h.sz, h.sl, (h.trim (ks := []) hd).hp, (h.trim (ks := []) hd).ne, (h.trim (ks := []) hd).nd, h.kp, (h.trim (ks := []) hd).ex⟩
def quietOut (P : Program) (N : Nat) (ov : List (Nat × Value)) (hs : List Nat) (hk : List Nat) (ops : Array Oper) (i : Nat) (st : St) : Option (St × List (Value × Value)) :=
  (ops[i]?).bind fun o => bif dstOk N o.dst then (doOp P ov hs ops o st).map fun r => (⟨r.1.sl, hk.filterMap fun j => r.1.hp[j]?⟩, r.2.2) else none
theorem tri_quiet (ov : (Nat → Nat) → List (Nat × Value)) (hs hk : List Nat) (e : (Nat → Nat) → List (Value × Value)) (hn : (R.p i).news = []) (h : ∀ β extra, quietOut X.P X.N (ov β) hs hk R.ops i ⟨R.ns i β ++ extra, R.nh i β⟩ = some (⟨putL (R.dst i) (R.v i β) (R.ns i β ++ extra), R.oh i β⟩, e β)) (hd : distinct hk = true) (he : ∀ β, EqAll (e β)) : R.Tri X k i := by
  intro β w J extra hkp hm hJ
  have h := h β extra
  unfold quietOut at h
  cases ho : R.ops[i]? with
  | none => rw [ho] at h; cases h
  | some o =>
    rw [ho] at h
    have h : (bif dstOk X.N o.dst then (doOp X.P (ov β) hs R.ops o ⟨R.ns i β ++ extra, R.nh i β⟩).map (fun r => ((⟨r.1.sl, hk.filterMap fun j => r.1.hp[j]?⟩ : St), r.2.2)) else none) = _ := h
    cases hds : dstOk X.N o.dst with
    | false => rw [hds] at h; cases h
    | true =>
      rw [hds] at h
      dsimp only [cond_true] at h
      cases hdo : doOp X.P (ov β) hs R.ops o ⟨R.ns i β ++ extra, R.nh i β⟩ with
      | none => rw [hdo] at h; cases h
      | some r =>
        obtain ⟨st', hs', e'⟩ := r
        rw [hdo] at h
        injection h with h
        injection h with h1 h2
        subst h2
        refine do_ok (X := Xw X k w (R.nh i β)) ho hds hdo (he β) (nx_ok (k' := [.lp J]) rfl fun a' w' g => hJ β (fun _ _ => rfl) (fun id hid => by rw [hn] at hid; cases hid) (by rw [hn]; exact List.Pairwise.nil) a' w' ?_)
        have := g.pick hd
        rw [← h1]
        exact this
def updB (β : Nat → Nat) (id b : Nat) : Nat → Nat := fun j => bif j == id then b else β j
theorem tri_new (nid : Nat) (O : (Nat → Nat) → Obj) (V : (Nat → Nat) → Nat → Value) (hk : List Nat) (hn : (R.p i).news = [nid]) (h : ∀ β extra b, headNew X.P X.N b [.ops R.ops [i]] ⟨R.ns i β ++ extra, R.nh i β⟩ = some (O β, V β b, R.dst i)) (hd : distinct hk = true) (hv : ∀ β b, R.v i (updB β nid b) = V β b) (ho : ∀ β b, (hk.filterMap fun j => ((b, O β) :: R.nh i β)[j]?) = R.oh i (updB β nid b)) (hb : ∀ β b, R.nm (updB β nid b) nid = b) : R.Tri X k i := by
  intro β w J extra hkp hm hJ
  have key : ∀ b, headNew X.P X.N b [.ops R.ops [i], .lp J] ⟨R.ns i β ++ extra, R.nh i β⟩ = some (O β, V β b, R.dst i) := fun b => h β extra b
  refine run_new (X := Xw X k w (R.nh i β)) (O β) (V β) (R.dst i) key fun b hb' => nx_ok (k' := [.lp J]) rfl fun a' w' g => hJ (updB β nid b) (fun id hid => ?_) (fun id hid => ?_) ?_ a' w' ?_
  · rw [hn] at hid
    have : (id == nid) = false := by simpa using hid
    unfold updB
    rw [this]
    rfl
  · rw [hn] at hid
    have : id = nid := by simpa using hid
    rw [this, hb]
    exact hb'
  · rw [hn]
    simp
  · have := g.pick hd
    rw [putL_put] at this
    rw [hv, ← ho]
    exact this
theorem tri_call (f : FuncId) (args : (Nat → Nat) → Array Value) (hn : (R.p i).news = []) (h : ∀ β extra, headCall X.P X.N [.ops R.ops [i]] ⟨R.ns i β ++ extra, R.nh i β⟩ = some (f, args β, R.dst i)) (ho : ∀ β, R.oh i β = R.nh i β) (hc : ∀ β w, Kept X.M X.B w → Hp (R.nh i β) w → Calls X.P f (args β) w (Ret (R.v i β) w)) : R.Tri X k i := by
  intro β w J extra hkp hm hJ
  have key : headCall X.P X.N [.ops R.ops [i], .lp J] ⟨R.ns i β ++ extra, R.nh i β⟩ = some (f, args β, R.dst i) := h β extra
  refine run_ret1 (X := Xw X k w (R.nh i β)) f (args β) (R.dst i) (R.v i β) key (fun w1 k1 k2 => hc β w1 (hkp.trans k1 fun b hb ⟨o, ho⟩ => hm _ ho hb) k2) (nx_ok (k' := [.lp J]) rfl fun a' w' g => hJ β (fun _ _ => rfl) (fun id hid => by rw [hn] at hid; cases hid) (by rw [hn]; exact List.Pairwise.nil) a' w' ?_)
  rw [putL_put] at g
  rw [ho]
  exact g
/-- A call that makes blocks, or writes to some of its caller's. -/
theorem tri_callN (f : FuncId) (args : (Nat → Nat) → Array Value) (h : ∀ β extra, headCall X.P X.N [.ops R.ops [i]] ⟨R.ns i β ++ extra, R.nh i β⟩ = some (f, args β, R.dst i))
    (hc : ∀ β w, Kept X.M X.B w → Hp (R.nh i β) w → Calls X.P f (args β) w fun e w' => ∃ β' : Nat → Nat, ((∀ id, id ∉ (R.p i).news → β' id = β id) ∧ (∀ id ∈ (R.p i).news, w.heap.size ≤ R.nm β' id) ∧ ((R.p i).news.map (R.nm β')).Pairwise (· ≠ ·)) ∧ e = .returned (R.v i β') ∧ After (R.nh i β) (R.oh i β') w w') (hnd : ∀ β, (∀ p ∈ R.nh i β, isDef p.2 = false) → ∀ β', ∀ p ∈ R.oh i β', isDef p.2 = false) : R.Tri X k i := by
  intro β w J extra hkp hm hJ
  have key : headCall X.P X.N [.ops R.ops [i], .lp J] ⟨R.ns i β ++ extra, R.nh i β⟩ = some (f, args β, R.dst i) := h β extra
  refine run_call (X := Xw X k w (R.nh i β)) f (args β) (R.dst i) key (fun β' => R.v i β') (fun β' => R.oh i β') (fun β' => (∀ id, id ∉ (R.p i).news → β' id = β id) ∧ (∀ id ∈ (R.p i).news, w.heap.size ≤ R.nm β' id) ∧ ((R.p i).news.map (R.nm β')).Pairwise (· ≠ ·)) (fun w1 k1 k2 k3 => (hc β w1 (hkp.trans k1 fun b hb ⟨o, ho⟩ => hm _ ho hb) k2).mono fun e w' ⟨β', ⟨h1, h2, h3⟩, he, ha⟩ => ⟨β', ⟨h1, fun id hid => Nat.le_trans k1.size (h2 id hid), h3⟩, he, ha⟩) (fun h β' _ => hnd β h β') fun β' ⟨h1, h2, h3⟩ => nx_ok (k' := [.lp J]) rfl fun a' w' g => hJ β' h1 h2 h3 a' w' ?_
  rw [putL_put] at g
  exact g
/-- An operation whose value is found by a law. -/
theorem tri_v (s : (Nat → Nat) → Sem Next) (hn : (R.p i).news = []) (h : ∀ β extra, headSem X.N [.ops R.ops [i]] ⟨R.ns i β ++ extra, R.nh i β⟩ = some (s β, R.dst i)) (ho : ∀ β, R.oh i β = R.nh i β) (hq : ∀ β w, Kept X.M X.B w → Hp (R.nh i β) w → (s β).run X.P w = .ok (.value (R.v i β)) w) : R.Tri X k i := by
  intro β w J extra hkp hm hJ
  have key : headSem X.N [.ops R.ops [i], .lp J] ⟨R.ns i β ++ extra, R.nh i β⟩ = some (s β, R.dst i) := h β extra
  refine run_v (X := Xw X k w (R.nh i β)) (s β) (R.dst i) (R.v i β) key (fun w1 k1 k2 => hq β w1 (hkp.trans k1 fun b hb ⟨o, ho⟩ => hm _ ho hb) k2) (nx_ok (k' := [.lp J]) rfl fun a' w' g => hJ β (fun _ _ => rfl) (fun id hid => by rw [hn] at hid; cases hid) (by rw [hn]; exact List.Pairwise.nil) a' w' ?_)
  rw [putL_put] at g
  rw [ho]
  exact g
end
/-- So for all below n. -/
def AllB : Nat → (Nat → Prop) → Prop
  | 0, _ => True
  | n + 1, p => AllB n p ∧ p n
theorem allB {p : Nat → Prop} : ∀ {n : Nat}, AllB n p → ∀ i, i < n → p i
  | 0, _, i, h => absurd h (Nat.not_lt_zero i)
  | n + 1, ⟨h1, h2⟩, i, h => by
    rcases Nat.lt_or_ge i n with h3 | h3
    · exact allB h1 i h3
    · have : i = n := by omega
      subst this
      exact h2
end Go.Proofs.Ytmiobcnccbfknaa
