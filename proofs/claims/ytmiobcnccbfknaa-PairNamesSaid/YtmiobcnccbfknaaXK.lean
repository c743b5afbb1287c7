/-
  ENGINE: calls that make several blocks; append of nothing; comparing structs.
-/
import Derived.Test.YtmiobcnccbfknaaXJ
import Derived.Test.YtmiobcnccbfknaaXE
import Derived.Laws.StructEq
import Derived.Laws.AppendOwn
import Derived.Laws.MakeOwn
namespace Go.Proofs.Ytmiobcnccbfknaa
open Go.RowKit

/-- It returns a value with new blocks. x is what is not known. -/
def NwL {α : Type} (V : α → Value) (New : α → List (Nat × Obj)) (I : α → Prop) (w : World) (e : Ending) (w' : World) : Prop :=
  ∃ x, I x ∧ e = .returned (V x) ∧ Keeps w w' ∧ (∀ p ∈ New x, w'.heap[p.1]? = some p.2 ∧ w.heap.size ≤ p.1) ∧ (New x).Pairwise fun p q => p.1 ≠ q.1
theorem run_nwl {X : Cx} {k : List KI} {st : St} (f : FuncId) (args : Array Value) (d : Option Tmp) {α : Type} (V : α → Value) (New : α → List (Nat × Obj)) (I : α → Prop) (h : headCall X.P X.N k st = some (f, args, d)) (ho : ∀ x, ∀ p ∈ New x, isDef p.2 = false) (hc : ∀ w, Kept X.M X.B w → Hp st.hp w → Calls X.P f args w (NwL V New I w))
    (hr : ∀ x, I x → (∀ p ∈ New x, X.B.heap.size ≤ p.1) → Run X (nextK k) ((⟨st.sl, New x ++ st.hp⟩ : St).put d (V x))) : Run X k st :=
  run_call f args d h V (fun x => New x ++ st.hp) (fun x => I x ∧ ∀ p ∈ New x, X.B.heap.size ≤ p.1) (fun w k1 k2 k3 => (hc w k1 k2).mono fun _ _ ⟨x, hx, he, hk, hn, hp⟩ => ⟨x, ⟨hx, fun p hp => Nat.le_trans k1.size (hn p hp).2⟩, he, .more k2 k3 hk hn hp⟩)
    (fun hnd x _ p hp => (List.mem_append.1 hp).elim (ho x p) (hnd p)) (fun x hx => hr x hx.1 hx.2)
/-- An append to a row of the call's own. -/
theorem run_appendB {X : Cx} {k : List KI} {st : St} {t ty e : TypeId} {i : TypeInfo} {z : Value} {size bytes : Nat} (ht : X.P.underlying t = some (.slice e)) (hi : X.P.info? e = some i) (hz : i.zero = some z) (hsize : i.size = size) (hby : i.bytes = bytes) (hzs : z.cells.size = size)
    (d : Option Tmp) (j g n cap : Nat) (xs sp : List Value) (a : Addr) (m c : Nat) (h : headSem X.N k st = some (appSem t ty (.slice (some ⟨g, 0, none⟩) n cap) (.slice (some a) m c), d)) (hj : st.hp[j]? = some (g, .cells (xs ++ sp).toArray e (0, 0))) (hxl : xs.length = n * size) (hcm : cap ≤ maxLen) (hcl : (xs ++ sp).length = cap * size)
    (news : List Value) (hl : news.length = m * size) (hnews : ∀ w, Kept X.M X.B w → Hp st.hp w → ∀ j u, news[j]? = some u → w.cell? (a.add j) = some u) (h1 : ∀ u ∈ news, u.oneCell' = true) (h63 : n + m ≤ maxLen) (hbytes : (n + m) * bytes ≤ 140737488355328)
    (hgB : X.B.heap.size ≤ g) (hr : ∀ g' cap' sp', X.B.heap.size ≤ g' → n + m ≤ cap' → cap' ≤ maxLen → (xs ++ news ++ sp').length = cap' * size → Run X (nextK k) ((⟨st.sl, (g', .cells (xs ++ news ++ sp').toArray e (0, 0)) :: st.hp.eraseIdx j⟩ : St).put d (.slice (some ⟨g', 0, none⟩) (n + m) cap'))) : Run X k st := by
  subst hsize
  subst hby
  intro a0 w g0
  refine head_at h g0 ?_
  have hg := (g0.hp _ (List.mem_of_getElem? hj)).1
  dsimp only at hg
  have hnw := hnews w g0.kp g0.Hp
  by_cases hroom : n + m ≤ cap
  · have hfit : n * i.size + news.length ≤ (xs ++ sp).toArray.size := by rw [hl, List.size_toArray, hcl, ← Nat.add_mul]; exact Nat.mul_le_mul_right _ hroom
    have hrun := run_append_room (P := X.P) w t ty e i ht hi g n cap _ hg a m c news hl hnw h1 hroom hfit
    unfold appSem
    simp only [Sem.run_bind, hrun, Result.andThen, Sem.run_pure]
    have e1 : (xs ++ sp).toArray.toList.take (n * i.size) ++ news ++ (xs ++ sp).toArray.toList.drop (n * i.size + news.length) = xs ++ news ++ sp.drop news.length := by
      rw [← hxl]
      simp
    rw [e1]
    have g1 := g0.setRow hj (xs ++ news ++ sp.drop news.length).toArray
    refine hr g cap _ hgB hroom hcm ?_ _ _ (G.put (g1.hpsub (hp' := (g, .cells (xs ++ news ++ sp.drop news.length).toArray e (0, 0)) :: st.hp.eraseIdx j) (fun p hp => ?_) (List.pairwise_cons.2 ⟨fun q hq => (erase_ne g0.ne hj hq : g ≠ q.1), g0.ne.sublist (List.eraseIdx_sublist _ _)⟩)) (headSem_dst h) _)
    · simp only [List.length_append, List.length_drop] at hcl hfit ⊢
      simp at hfit
      omega
    · rcases List.mem_cons.1 hp with rfl | hp
      · exact List.mem_of_getElem? (i := j) (by rw [List.getElem?_set]; simp [(List.getElem?_eq_some_iff.1 hj).1])
      · obtain ⟨q, hq, h2⟩ := List.mem_eraseIdx_iff_getElem?.1 hp
        exact List.mem_of_getElem? (i := q) (by rw [List.getElem?_set]; simp [Ne.symm hq, h2])
  · have holds : ∀ jj u, xs[jj]? = some u → w.cell? ((⟨g, 0, none⟩ : Addr).add jj) = some u := fun jj u hu => by
      rw [add_none, Nat.zero_add]
      refine cells_of_heap hg jj u ?_
      rw [List.getElem?_append_left (List.getElem?_eq_some_iff.1 hu).1]
      exact hu
    have hrun := run_append_grow (P := X.P) w t ty e i z ht hi hz ⟨g, 0, none⟩ n cap xs hxl holds a m c news hl hnw (by omega) (by simp only [maxLen] at h63; omega) (growslice_fits (by omega) hbytes)
    unfold appSem
    simp only [Sem.run_bind, hrun, Result.andThen, Sem.run_pure]
    have e1 : xs.toArray ++ news.toArray ++ Builtin.zeroCells z.cells (grownCap w (n + m) cap e - (n + m)) = (xs ++ news ++ (Builtin.zeroCells z.cells (grownCap w (n + m) cap e - (n + m))).toList).toArray := by simp
    rw [e1]
    have g1 := (g0.world (Keeps.refl w).drew).alloc (.cells (xs ++ news ++ (Builtin.zeroCells z.cells (grownCap w (n + m) cap e - (n + m))).toList).toArray e (0, 0)) rfl
    have hge := grownCap_ge w (n + m) cap e
    refine hr _ _ _ g0.kp.size hge (grownCap_le_maxLen w (n + m) cap e h63) ?_ _ _ (G.put (g1.hpsub (hp' := (w.heap.size, .cells (xs ++ news ++ (Builtin.zeroCells z.cells (grownCap w (n + m) cap e - (n + m))).toList).toArray e (0, 0)) :: st.hp.eraseIdx j) (fun p hp => ?_) ?_) (headSem_dst h) _)
    · simp only [List.length_append, Array.length_toList, size_zeroCells, hzs, hxl, hl, ← Nat.add_mul]
      congr 1
      omega
    · rcases List.mem_cons.1 hp with rfl | hp
      · exact List.mem_cons_self
      · exact List.mem_cons_of_mem _ (List.mem_of_mem_eraseIdx hp)
    · refine List.pairwise_cons.2 ⟨fun q hq => ?_, g0.ne.sublist (List.eraseIdx_sublist _ _)⟩
      have := (Array.getElem?_eq_some_iff.1 (g0.hp q (List.mem_of_mem_eraseIdx hq)).1).1
      exact Nat.ne_of_gt this
/-- An append to a slice that is nil. -/
theorem run_appendB_none {X : Cx} {k : List KI} {st : St} {t ty e : TypeId} {i : TypeInfo} {z : Value} {size bytes : Nat} (ht : X.P.underlying t = some (.slice e)) (hi : X.P.info? e = some i) (hz : i.zero = some z) (hsize : i.size = size) (hby : i.bytes = bytes) (hzs : z.cells.size = size)
    (d : Option Tmp) (a : Addr) (m c : Nat) (hm : 0 < m) (h : headSem X.N k st = some (appSem t ty (.slice none 0 0) (.slice (some a) m c), d))
    (news : List Value) (hl : news.length = m * size) (hnews : ∀ w, Kept X.M X.B w → Hp st.hp w → ∀ j u, news[j]? = some u → w.cell? (a.add j) = some u) (h63 : m ≤ maxLen) (hbytes : m * bytes ≤ 140737488355328)
    (hr : ∀ g' cap' sp', X.B.heap.size ≤ g' → m ≤ cap' → cap' ≤ maxLen → (news ++ sp').length = cap' * size → Run X (nextK k) ((⟨st.sl, (g', .cells (news ++ sp').toArray e (0, 0)) :: st.hp⟩ : St).put d (.slice (some ⟨g', 0, none⟩) m cap'))) : Run X k st := by
  subst hsize
  subst hby
  intro a0 w g0
  refine head_at h g0 ?_
  have hnw := hnews w g0.kp g0.Hp
  have hrun := run_append_nil (P := X.P) w t ty e i z ht hi hz a m c news hl hnw hm (by simp only [maxLen] at h63; omega) (by omega)
  unfold appSem
  simp only [Sem.run_bind, hrun, Result.andThen, Sem.run_pure]
  have e1 : news.toArray ++ Builtin.zeroCells z.cells (grownCap w m 0 e - m) = (news ++ (Builtin.zeroCells z.cells (grownCap w m 0 e - m)).toList).toArray := by simp
  rw [e1]
  have g1 := (g0.world (Keeps.refl w).drew).alloc (.cells (news ++ (Builtin.zeroCells z.cells (grownCap w m 0 e - m)).toList).toArray e (0, 0)) rfl
  have hge := grownCap_ge w m 0 e
  refine hr _ _ _ g0.kp.size hge (grownCap_le_maxLen w m 0 e h63) ?_ _ _ (g1.put (headSem_dst h) _)
  simp only [List.length_append, Array.length_toList, size_zeroCells, hzs, hl, ← Nat.add_mul]
  congr 1
  omega

theorem info_of {P : Program} {e : TypeId} {n : Nat} {z : Value} (hs : tySize P e = some n) (hz : tyZero P e = some z) : ∃ i, P.info? e = some i ∧ i.zero = some z ∧ i.size = n ∧ i.bytes = tyBytes P e := by
  unfold tySize at hs
  unfold tyZero at hz
  unfold tyBytes
  cases hi : P.info? e with
  | none => rw [hi] at hs; cases hs
  | some i =>
    rw [hi] at hs hz
    exact ⟨i, rfl, hz, by injection hs, rfl⟩
section
variable {α : Type} {X : Cx} {k : List KI} {st : St} {t ty e : TypeId} {n : Nat} {z : Value} (ht : X.P.underlying t = some (.slice e)) (hs : tySize X.P e = some n) (hz : tyZero X.P e = some z) (hzn : z.cells.size = n) (hby : Nat.ble (tyBytes X.P e) 1000 = true) (c : α → List Value) (hc : ∀ x, (c x).length = n) (h1 : ∀ x, ∀ u ∈ c x, u.oneCell' = true)
include ht hs hz hzn hby hc h1
/-- Elements of which those are that lie at a, behind a row of the call's own. -/
theorem run_app (d : Option Tmp) (j g len m cap c' : Nat) (L M : List α) (sp : List Value) (a : Addr) (hll : L.length = len) (hml : M.length = m) (h : headSem X.N k st = some (appSem t ty (.slice (some ⟨g, 0, none⟩) len cap) (.slice (some a) m c'), d)) (hj : st.hp[j]? = some (g, .cells (L.flatMap c ++ sp).toArray e (0, 0))) (hcm : cap ≤ maxLen) (hcl : (L.flatMap c ++ sp).length = cap * n)
    (hnews : ∀ w, Kept X.M X.B w → Hp st.hp w → ∀ j u, (M.flatMap c)[j]? = some u → w.cell? (a.add j) = some u) (h63 : len + m ≤ 1000000) (hgB : X.B.heap.size ≤ g)
    (hr : ∀ g' cap' sp', X.B.heap.size ≤ g' → len + m ≤ cap' → cap' ≤ maxLen → ((L ++ M).flatMap c ++ sp').length = cap' * n → Run X (nextK k) ((⟨st.sl, (g', .cells ((L ++ M).flatMap c ++ sp').toArray e (0, 0)) :: st.hp.eraseIdx j⟩ : St).put d (.slice (some ⟨g', 0, none⟩) (len + m) cap'))) : Run X k st := by
  obtain ⟨i, hi, hiz, his, hib⟩ := info_of hs hz
  have hb := Nat.le_of_ble_eq_true hby
  refine run_appendB (X := X) ht hi hiz his hib hzn d j g len cap (L.flatMap c) sp a m c' h hj (by rw [flat_len hc, hll]) hcm hcl (M.flatMap c) (by rw [flat_len hc, hml]) hnews (flat_one h1 M) (by simp only [maxLen]; omega) (Nat.le_trans (Nat.mul_le_mul h63 hb) (by omega)) hgB fun g' cap' sp' q1 q2 q3 q4 => ?_
  rw [← List.flatMap_append] at q4 ⊢
  exact hr g' cap' sp' q1 q2 q3 q4
omit h1 in
theorem run_app_none (d : Option Tmp) (m c' : Nat) (M : List α) (a : Addr) (hml : M.length = m) (hm : 0 < m) (h : headSem X.N k st = some (appSem t ty (.slice none 0 0) (.slice (some a) m c'), d))
    (hnews : ∀ w, Kept X.M X.B w → Hp st.hp w → ∀ j u, (M.flatMap c)[j]? = some u → w.cell? (a.add j) = some u) (h63 : m ≤ 1000000)
    (hr : ∀ g' cap' sp', X.B.heap.size ≤ g' → m ≤ cap' → cap' ≤ maxLen → (M.flatMap c ++ sp').length = cap' * n → Run X (nextK k) ((⟨st.sl, (g', .cells (M.flatMap c ++ sp').toArray e (0, 0)) :: st.hp⟩ : St).put d (.slice (some ⟨g', 0, none⟩) m cap'))) : Run X k st := by
  obtain ⟨i, hi, hiz, his, hib⟩ := info_of hs hz
  have hb := Nat.le_of_ble_eq_true hby
  exact run_appendB_none (X := X) ht hi hiz his hib hzn d a m c' hm h (M.flatMap c) (by rw [flat_len hc, hml]) hnews (by simp only [maxLen]; omega) (Nat.le_trans (Nat.mul_le_mul h63 hb) (by omega)) hr
end
/-- Nothing is appended. -/
theorem app_empty {P : Program} {t ty e : TypeId} {n : Nat} (ht : P.underlying t = some (.slice e)) (hs : tySize P e = some n) (b a : Option Addr) (len cap c : Nat) (h : len ≤ cap) (w : World) : (appSem t ty (.slice b len cap) (.slice a 0 c)).run P w = .ok (.value (.slice b len cap)) w := by
  have hz := sizeOf_run hs w
  cases a with
  | none => cases b <;> simp [appSem, Builtin.append_, run_underlying ht, hz, Builtin.lenOf, Builtin.firstCells, h, storeCells, Result.andThen]
  | some a =>
    have hf := run_firstCells_some (P := P) w n 0 a 0 c [] (by simp) (fun j v hj => by simp at hj)
    cases b <;> simp [appSem, Builtin.append_, run_underlying ht, hz, Builtin.lenOf, hf, h, storeCells, Result.andThen]
section
variable {α : Type} {X : Cx} {k : List KI} {st : St} {t ty e : TypeId} {n : Nat} {z : Value} (ht : X.P.underlying t = some (.slice e)) (hs : tySize X.P e = some n) (hz : tyZero X.P e = some z) (hzn : z.cells.size = n) (hby : Nat.ble (tyBytes X.P e) 1000 = true) (c : α → List Value) (hc : ∀ x, (c x).length = n) (h1 : ∀ x, ∀ u ∈ c x, u.oneCell' = true)
include ht hs hz hzn hby hc h1
/-- Elements that came in, or none. -/
theorem run_appO (d : Option Tmp) (j g len m cap c' : Nat) (L M : List α) (sp : List Value) (a : Option Addr) (hll : L.length = len) (hml : M.length = m) (h : headSem X.N k st = some (appSem t ty (.slice (some ⟨g, 0, none⟩) len cap) (.slice a m c'), d)) (hj : st.hp[j]? = some (g, .cells (L.flatMap c ++ sp).toArray e (0, 0))) (hcm : cap ≤ maxLen) (hcl : (L.flatMap c ++ sp).length = cap * n) (hlc : len ≤ cap)
    (hnews : ∀ w, Kept X.M X.B w → Hp st.hp w → M ≠ [] → ∃ b' o, a = some ⟨b', o, none⟩ ∧ ∀ j u, (M.flatMap c)[j]? = some u → w.cell? ((⟨b', o, none⟩ : Addr).add j) = some u) (h63 : len + m ≤ 1000000) (hgB : X.B.heap.size ≤ g)
    (hr : ∀ g' cap' sp', X.B.heap.size ≤ g' → len + m ≤ cap' → cap' ≤ maxLen → ((L ++ M).flatMap c ++ sp').length = cap' * n → Run X (nextK k) ((⟨st.sl, (g', .cells ((L ++ M).flatMap c ++ sp').toArray e (0, 0)) :: st.hp.eraseIdx j⟩ : St).put d (.slice (some ⟨g', 0, none⟩) (len + m) cap'))) : Run X k st := by
  intro a0 w g0
  by_cases hM : M = []
  · subst hM
    have hm0 : m = 0 := hml.symm
    subst hm0
    have hr2 := hr g cap sp hgB hlc hcm (by rw [List.append_nil]; exact hcl)
    rw [List.append_nil, Nat.add_zero] at hr2
    refine run_v (X := X) _ d (.slice (some ⟨g, 0, none⟩) len cap) h (fun w _ _ => app_empty (ty := ty) ht hs _ a len cap c' hlc w) (fun a1 w1 g1 => ?_) a0 w g0
    have hpd : (st.put d (.slice (some ⟨g, 0, none⟩) len cap)).hp = st.hp := by cases d <;> rfl
    have key := G.hpsub (hp' := (g, .cells (L.flatMap c ++ sp).toArray e (0, 0)) :: st.hp.eraseIdx j) g1 (fun p hp => by
      rw [hpd]
      rcases List.mem_cons.1 hp with rfl | hp
      · exact List.mem_of_getElem? hj
      · exact List.mem_of_mem_eraseIdx hp) (List.pairwise_cons.2 ⟨fun q hq => (erase_ne g0.ne hj hq : g ≠ q.1), g0.ne.sublist (List.eraseIdx_sublist _ _)⟩)
    cases d <;> exact hr2 a1 w1 key
  · obtain ⟨b', o, rfl, _⟩ := hnews w g0.kp g0.Hp hM
    exact run_app ht hs hz hzn hby c hc h1 d j g len m cap c' L M sp ⟨b', o, none⟩ hll hml h hj hcm hcl (fun w k1 k2 => by
      obtain ⟨b2, o2, e2, h2⟩ := hnews w k1 k2 hM
      injection e2 with e2
      injection e2 with e3 e4
      subst e3
      subst e4
      exact h2) h63 hgB hr a0 w g0
end
/-- The same with the value written out. -/
theorem tri_callV {R : Rg} {X : Cx} {k : List KI} {i : Nat} (V : (Nat → Nat) → Value) (hv : ∀ β, R.v i β = V β) (f : FuncId) (args : (Nat → Nat) → Array Value) (hn : (R.p i).news = []) (h : ∀ β extra, headCall X.P X.N [.ops R.ops [i]] ⟨R.ns i β ++ extra, R.nh i β⟩ = some (f, args β, R.dst i)) (ho : ∀ β, R.oh i β = R.nh i β) (hc : ∀ β w, Kept X.M X.B w → Hp (R.nh i β) w → Calls X.P f (args β) w (Ret (V β) w)) : R.Tri X k i :=
  tri_call f args hn h ho (fun β w k1 h1 => by rw [hv β]; exact hc β w k1 h1)
theorem tri_vV {R : Rg} {X : Cx} {k : List KI} {i : Nat} (V : (Nat → Nat) → Value) (hv : ∀ β, R.v i β = V β) (s : (Nat → Nat) → Sem Next) (hn : (R.p i).news = []) (h : ∀ β extra, headSem X.N [.ops R.ops [i]] ⟨R.ns i β ++ extra, R.nh i β⟩ = some (s β, R.dst i)) (ho : ∀ β, R.oh i β = R.nh i β) (hq : ∀ β w, Kept X.M X.B w → Hp (R.nh i β) w → (s β).run X.P w = .ok (.value (V β)) w) : R.Tri X k i :=
  tri_v s hn h ho (fun β w k1 h1 => by rw [hv β]; exact hq β w k1 h1)
end Go.Proofs.Ytmiobcnccbfknaa
