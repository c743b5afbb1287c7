/-
  ENGINE, thirteenth part: rows that grow, and rows that are read and written at a place that is not written out.
-/
import Derived.Test.YtmiobcnccbfknaaXC
import Derived.Laws.AppendOwn
import Derived.Laws.MakeOwn
namespace Go.Proofs.Ytmiobcnccbfknaa
open Go.RowKit

theorem G.hpsub {X : Cx} {st : St} {a : Act} {w : World} (h : G X st a w) {hp' : List (Nat × Obj)} (hs : ∀ p ∈ hp', p ∈ st.hp) (hn : hp'.Pairwise fun p q => p.1 ≠ q.1) : G X ⟨st.sl, hp'⟩ a w :=
  ⟨h.df, h.sz, h.sl, fun p hp => h.hp p (hs p hp), hn, fun p hp => h.nd p (hs p hp), h.kp, ⟨h.ex.J, fun p hp => h.ex.hp p (hs p hp), h.ex.n0⟩⟩
theorem erase_ne {α : Type} {l : List (Nat × α)} (h : l.Pairwise fun p q => p.1 ≠ q.1) {j : Nat} {p q : Nat × α} (hj : l[j]? = some p) (hq : q ∈ l.eraseIdx j) : p.1 ≠ q.1 := by
  obtain ⟨i, hi, h1⟩ := List.mem_eraseIdx_iff_getElem?.1 hq
  exact pairwise_ne h hj h1 (Ne.symm hi)
def appSem (t ty : TypeId) (v x : Value) : Sem Next := Builtin.append_ #[t, t] ty #[v, x] >>= fun v => pure (Next.value v)
/-- An append to a row of the call's own. -/
theorem run_append {X : Cx} {k : List KI} {st : St} {t ty e : TypeId} {i : TypeInfo} {z : Value} {size bytes : Nat} (ht : X.P.underlying t = some (.slice e)) (hi : X.P.info? e = some i) (hz : i.zero = some z) (hsize : i.size = size) (hby : i.bytes = bytes) (hzs : z.cells.size = size)
    (d : Option Tmp) (j g n cap : Nat) (xs sp : List Value) (a : Addr) (m c : Nat) (h : headSem X.N k st = some (appSem t ty (.slice (some ⟨g, 0, none⟩) n cap) (.slice (some a) m c), d)) (hj : st.hp[j]? = some (g, .cells (xs ++ sp).toArray e (0, 0))) (hxl : xs.length = n * size) (hcm : cap ≤ maxLen) (hcl : (xs ++ sp).length = cap * size)
    (news : List Value) (hl : news.length = m * size) (hnews : ∀ w, Kept X.M X.B w → Hp st.hp w → ∀ j u, news[j]? = some u → w.cell? (a.add j) = some u) (h1 : ∀ u ∈ news, u.oneCell' = true) (h63 : n + m ≤ maxLen) (hbytes : (n + m) * bytes ≤ 140737488355328)
    (hr : ∀ g' cap' sp', n + m ≤ cap' → cap' ≤ maxLen → (xs ++ news ++ sp').length = cap' * size → Run X (nextK k) ((⟨st.sl, (g', .cells (xs ++ news ++ sp').toArray e (0, 0)) :: st.hp.eraseIdx j⟩ : St).put d (.slice (some ⟨g', 0, none⟩) (n + m) cap'))) : Run X k st := by
  subst hsize
  subst hby
  intro a0 w g0
  refine head_at h g0 ?_
  have hg := (g0.hp _ (List.mem_of_getElem? hj)).1
  dsimp only at hg
  have hnw := hnews w g0.kp g0.Hp
  by_cases hroom : n + m ≤ cap
  · have hfit : n * i.size + news.length ≤ (xs ++ sp).toArray.size := by rw [hl, List.size_toArray, hcl, ← Nat.add_mul]; exact Nat.mul_le_mul_right _ hroom
    have hrun := run_append_room (P := X.P) w t ty e i ht hi g n cap _ hg a m c news hl hnw h1 hroom hfit
    unfold appSem
    simp only [Sem.run_bind, hrun, Result.andThen, Sem.run_pure]
    have e1 : (xs ++ sp).toArray.toList.take (n * i.size) ++ news ++ (xs ++ sp).toArray.toList.drop (n * i.size + news.length) = xs ++ news ++ sp.drop news.length := by
      rw [← hxl]
      simp
    rw [e1]
    have g1 := g0.setRow hj (xs ++ news ++ sp.drop news.length).toArray
    refine hr g cap _ hroom hcm ?_ _ _ (G.put (g1.hpsub (hp' := (g, .cells (xs ++ news ++ sp.drop news.length).toArray e (0, 0)) :: st.hp.eraseIdx j) (fun p hp => ?_) (List.pairwise_cons.2 ⟨fun q hq => (erase_ne g0.ne hj hq : g ≠ q.1), g0.ne.sublist (List.eraseIdx_sublist _ _)⟩)) (headSem_dst h) _)
    · simp only [List.length_append, List.length_drop] at hcl hfit ⊢
      simp at hfit
      omega
    · rcases List.mem_cons.1 hp with rfl | hp
      · exact List.mem_of_getElem? (i := j) (by rw [List.getElem?_set]; simp [(List.getElem?_eq_some_iff.1 hj).1])
      · obtain ⟨q, hq, h2⟩ := List.mem_eraseIdx_iff_getElem?.1 hp
        exact List.mem_of_getElem? (i := q) (by rw [List.getElem?_set]; simp [Ne.symm hq, h2])
  · have holds : ∀ jj u, xs[jj]? = some u → w.cell? ((⟨g, 0, none⟩ : Addr).add jj) = some u := fun jj u hu => by
      rw [add_none, Nat.zero_add]
      refine cells_of_heap hg jj u ?_
      rw [List.getElem?_append_left (List.getElem?_eq_some_iff.1 hu).1]
      exact hu
    have hrun := run_append_grow (P := X.P) w t ty e i z ht hi hz ⟨g, 0, none⟩ n cap xs hxl holds a m c news hl hnw (by omega) (by simp only [maxLen] at h63; omega) (growslice_fits (by omega) hbytes)
    unfold appSem
    simp only [Sem.run_bind, hrun, Result.andThen, Sem.run_pure]
    have e1 : xs.toArray ++ news.toArray ++ Builtin.zeroCells z.cells (grownCap w (n + m) cap e - (n + m)) = (xs ++ news ++ (Builtin.zeroCells z.cells (grownCap w (n + m) cap e - (n + m))).toList).toArray := by simp
    rw [e1]
    have g1 := (g0.world (Keeps.refl w).drew).alloc (.cells (xs ++ news ++ (Builtin.zeroCells z.cells (grownCap w (n + m) cap e - (n + m))).toList).toArray e (0, 0)) rfl
    have hge := grownCap_ge w (n + m) cap e
    refine hr _ _ _ hge (grownCap_le_maxLen w (n + m) cap e h63) ?_ _ _ (G.put (g1.hpsub (hp' := (w.heap.size, .cells (xs ++ news ++ (Builtin.zeroCells z.cells (grownCap w (n + m) cap e - (n + m))).toList).toArray e (0, 0)) :: st.hp.eraseIdx j) (fun p hp => ?_) ?_) (headSem_dst h) _)
    · simp only [List.length_append, Array.length_toList, size_zeroCells, hzs, hxl, hl, ← Nat.add_mul]
      congr 1
      omega
    · rcases List.mem_cons.1 hp with rfl | hp
      · exact List.mem_cons_self
      · exact List.mem_cons_of_mem _ (List.mem_of_mem_eraseIdx hp)
    · refine List.pairwise_cons.2 ⟨fun q hq => ?_, g0.ne.sublist (List.eraseIdx_sublist _ _)⟩
      have := (Array.getElem?_eq_some_iff.1 (g0.hp q (List.mem_of_mem_eraseIdx hq)).1).1
      exact Nat.ne_of_gt this
/-- An append to a slice that is nil. -/
theorem run_append_none {X : Cx} {k : List KI} {st : St} {t ty e : TypeId} {i : TypeInfo} {z : Value} {size bytes : Nat} (ht : X.P.underlying t = some (.slice e)) (hi : X.P.info? e = some i) (hz : i.zero = some z) (hsize : i.size = size) (hby : i.bytes = bytes) (hzs : z.cells.size = size)
    (d : Option Tmp) (a : Addr) (m c : Nat) (hm : 0 < m) (h : headSem X.N k st = some (appSem t ty (.slice none 0 0) (.slice (some a) m c), d))
    (news : List Value) (hl : news.length = m * size) (hnews : ∀ w, Kept X.M X.B w → Hp st.hp w → ∀ j u, news[j]? = some u → w.cell? (a.add j) = some u) (h63 : m ≤ maxLen) (hbytes : m * bytes ≤ 140737488355328)
    (hr : ∀ g' cap' sp', m ≤ cap' → cap' ≤ maxLen → (news ++ sp').length = cap' * size → Run X (nextK k) ((⟨st.sl, (g', .cells (news ++ sp').toArray e (0, 0)) :: st.hp⟩ : St).put d (.slice (some ⟨g', 0, none⟩) m cap'))) : Run X k st := by
  subst hsize
  subst hby
  intro a0 w g0
  refine head_at h g0 ?_
  have hnw := hnews w g0.kp g0.Hp
  have hrun := run_append_nil (P := X.P) w t ty e i z ht hi hz a m c news hl hnw hm (by simp only [maxLen] at h63; omega) (by omega)
  unfold appSem
  simp only [Sem.run_bind, hrun, Result.andThen, Sem.run_pure]
  have e1 : news.toArray ++ Builtin.zeroCells z.cells (grownCap w m 0 e - m) = (news ++ (Builtin.zeroCells z.cells (grownCap w m 0 e - m)).toList).toArray := by simp
  rw [e1]
  have g1 := (g0.world (Keeps.refl w).drew).alloc (.cells (news ++ (Builtin.zeroCells z.cells (grownCap w m 0 e - m)).toList).toArray e (0, 0)) rfl
  have hge := grownCap_ge w m 0 e
  refine hr _ _ _ hge (grownCap_le_maxLen w m 0 e h63) ?_ _ _ (g1.put (headSem_dst h) _)
  simp only [List.length_append, Array.length_toList, size_zeroCells, hzs, hl, ← Nat.add_mul]
  congr 1
  omega
/-- A store into a row of the call's own, at a place that is not written out. -/
theorem run_store {X : Cx} {k : List KI} {st : St} (j b off : Nat) (t : TypeId) (v : Value) (c c' : List Value) (e : TypeId) (h : headSem X.N k st = some ((do Instr.storeAt t (.pointer (some ⟨b, off, none⟩)) v; pure .skip), none)) (hj : st.hp[j]? = some (b, .cells c.toArray e (0, 0))) (hs : storeV X.P t c off v = some c')
    (hr : Run X (nextK k) ⟨st.sl, st.hp.set j (b, .cells c'.toArray e (0, 0))⟩) : Run X k st := by
  intro a w g
  refine head_at h g ?_
  have hb := (g.hp _ (List.mem_of_getElem? hj)).1
  have hl := store_own (P := X.P) (t := t) hb hs
  simp only [Sem.run_bind, hl, Result.andThen, Sem.run_pure]
  exact hr _ _ (g.setRow hj c'.toArray)
/-- A load of a row of the call's own, at a place that is not written out. -/
theorem load_own {P : Program} {t : TypeId} {hp : List (Nat × Obj)} {w : World} (h : Hp hp w) {b off : Nat} {c : List Value} {e : TypeId} {fr : Nat × Nat} (hm : (b, Obj.cells c.toArray e fr) ∈ hp) {v : Value} (hv : loadV P t c off = some v) : (Instr.loadAt t (.pointer (some ⟨b, off, none⟩)) >>= fun v => pure (Next.value v)).run P w = .ok (.value v) w := by
  have hb := h _ hm
  have h1 := load_cells (P := P) (w := w) (t := t) (base := 0) (fun i u hi => by rw [Nat.zero_add]; exact cells_of_heap hb i u hi) hv
  rw [Nat.zero_add] at h1
  simp only [Sem.run_bind, h1, Result.andThen, Sem.run_pure]
/-- make([]T, n). -/
theorem run_make {X : Cx} {k : List KI} {st : St} {t e : TypeId} {i : TypeInfo} {z : Value} (ht : X.P.underlying t = some (.slice e)) (hi : X.P.info? e = some i) (hz : i.zero = some z)
    (d : Option Tmp) (n : Nat) (hn : n ≤ maxLen) (hc : n * i.size ≤ 16777216) (hnb : i.bytes * n ≤ 281474976710656) (h : headSem X.N k st = some ((Instr.makeSlice t (.int .i64 (n : Int)) (.int .i64 (n : Int)) >>= fun v => pure (Next.value v)), d))
    (hr : ∀ g cs, X.B.heap.size ≤ g → cs = (madeCells z.cells (n * i.size)).toList → Run X (nextK k) ((⟨st.sl, (g, .cells cs.toArray e (0, 0)) :: st.hp⟩ : St).put d (.slice (some ⟨g, 0, none⟩) n n))) : Run X k st := by
  intro a w g
  refine head_at h g ?_
  have hrun := run_makeSlice (P := X.P) w t e i z ht hi hz .i64 .i64 (n : Int) (n : Int) (by omega) (Int.le_refl _) (by rw [Int.toNat_natCast]; exact hc) (by have h3 : ((i.bytes * n : Nat) : Int) ≤ ((281474976710656 : Nat) : Int) := Int.ofNat_le.2 hnb; rw [Int.natCast_mul] at h3; exact h3) (by simp only [maxLen] at hn; omega)
  have e1 : ((n : Int)).toNat = n := by simp
  rw [e1] at hrun
  simp only [Sem.run_bind, hrun, Result.andThen, Sem.run_pure]
  have g1 := g.alloc (.cells (madeCells z.cells (n * i.size)) e (0, 0)) rfl
  have h2 := hr w.heap.size _ g.kp.size rfl (a.put d (.slice (some ⟨w.heap.size, 0, none⟩) n n)) (w.alloc (.cells (madeCells z.cells (n * i.size)) e (0, 0)))
  rw [Array.toArray_toList] at h2
  exact h2 (g1.put (headSem_dst h) _)
end Go.Proofs.Ytmiobcnccbfknaa
