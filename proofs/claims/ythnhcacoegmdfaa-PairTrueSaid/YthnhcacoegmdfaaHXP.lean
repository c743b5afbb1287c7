/-
  ENGINE: appends in a region that draws its order: to a row with room, to a row that must grow, to nil. What is not known of the new row is how much more than needed it can hold: a number among the names.
-/
import Derived.Test.YthnhcacoegmdfaaHXO
namespace Go.Proofs.Ythnhcacoegmdfaa
open Go.RowKit

/-- How much a row that has grown can hold, by a number. -/
def capN (l x : Nat) : Nat := min (l + x) maxLen
theorem capN_is {l c : Nat} (h1 : l ≤ c) (h2 : c ≤ maxLen) : capN l (c - l) = c := by unfold capN; omega
theorem capN_ge {l : Nat} (h : l ≤ maxLen) (x : Nat) : l ≤ capN l x := by unfold capN; omega
theorem capN_le (l x : Nat) : capN l x ≤ maxLen := by unfold capN; omega
/-- What lies behind the row's end. -/
def spareN (z : Value) (l x : Nat) : List Value := (Builtin.zeroCells z.cells (capN l x - l)).toList
theorem spareN_len (z : Value) {l : Nat} (h : l ≤ maxLen) (x : Nat) {n : Nat} (hz : z.cells.size = n) {xs : List Value} (hx : xs.length = l * n) : (xs ++ spareN z l x).length = capN l x * n := by
  have := capN_ge h x
  unfold spareN
  simp only [List.length_append, Array.length_toList, size_zeroCells, hz, hx, ← Nat.add_mul]
  congr 1
  omega
section
variable {X : Cx} {k : List KI} {st : St} {t ty e : TypeId} {i : TypeInfo} {z : Value} {size bytes : Nat} (ht : X.P.underlying t = some (.slice e)) (hi : X.P.info? e = some i) (hz : i.zero = some z) (hsize : i.size = size) (hby : i.bytes = bytes) (hzs : z.cells.size = size)
include ht hi hsize in
theorem run_roomR (d : Option Tmp) (j g n cap : Nat) (c0 : List Value) (a : Addr) (m c : Nat) (h : headSem X.N k st = some (appSem t ty (.slice (some ⟨g, 0, none⟩) n cap) (.slice (some a) m c), d)) (hj : st.hp[j]? = some (g, .cells c0.toArray e (0, 0))) (hcl : c0.length = cap * size)
    (news : List Value) (hl : news.length = m * size) (hnews : ∀ w, Kept X.M X.B w → Hp st.hp w → ∀ j u, news[j]? = some u → w.cell? (a.add j) = some u) (h1 : ∀ u ∈ news, u.oneCell' = true) (hroom : n + m ≤ cap)
    (c1 : List Value) (hc1 : c0.take (n * size) ++ news ++ c0.drop (n * size + news.length) = c1)
    (hr : Run X (nextK k) ((⟨st.sl, st.hp.set j (g, .cells c1.toArray e (0, 0))⟩ : St).put d (.slice (some ⟨g, 0, none⟩) (n + m) cap))) : Run X k st := by
  subst hsize
  intro a0 w g0
  refine head_at h g0 ?_
  have hg := (g0.hp _ (List.mem_of_getElem? hj)).1
  dsimp only at hg
  have hnw := hnews w g0.kp g0.Hp
  have hfit : n * i.size + news.length ≤ c0.toArray.size := by rw [hl, List.size_toArray, hcl, ← Nat.add_mul]; exact Nat.mul_le_mul_right _ hroom
  have hrun := run_append_room (P := X.P) w t ty e i ht hi g n cap _ hg a m c news hl hnw h1 hroom hfit
  unfold appSem
  simp only [Sem.run_bind, hrun, Result.andThen, Sem.run_pure]
  rw [show c0.toArray.toList.take (n * i.size) ++ news ++ c0.toArray.toList.drop (n * i.size + news.length) = c1 from hc1]
  exact hr _ _ ((g0.setRow hj c1.toArray).put (headSem_dst h) _)
include ht hi hz hsize hby hzs
theorem run_growR (d : Option Tmp) (j g n cap : Nat) (xs sp : List Value) (a : Addr) (m c : Nat) (h : headSem X.N k st = some (appSem t ty (.slice (some ⟨g, 0, none⟩) n cap) (.slice (some a) m c), d)) (hj : st.hp[j]? = some (g, .cells (xs ++ sp).toArray e (0, 0))) (hxl : xs.length = n * size)
    (news : List Value) (hl : news.length = m * size) (hnews : ∀ w, Kept X.M X.B w → Hp st.hp w → ∀ j u, news[j]? = some u → w.cell? (a.add j) = some u) (h63 : n + m ≤ maxLen) (hbytes : (n + m) * bytes ≤ 140737488355328) (hgrow : cap < n + m)
    (hr : ∀ g' x, X.B.heap.size ≤ g' → Run X (nextK k) ((⟨st.sl, (g', .cells (xs ++ news ++ spareN z (n + m) x).toArray e (0, 0)) :: st.hp⟩ : St).put d (.slice (some ⟨g', 0, none⟩) (n + m) (capN (n + m) x)))) : Run X k st := by
  subst hsize
  subst hby
  intro a0 w g0
  refine head_at h g0 ?_
  have hg := (g0.hp _ (List.mem_of_getElem? hj)).1
  dsimp only at hg
  have hnw := hnews w g0.kp g0.Hp
  have holds : ∀ jj u, xs[jj]? = some u → w.cell? ((⟨g, 0, none⟩ : Addr).add jj) = some u := fun jj u hu => by
    rw [add_none, Nat.zero_add]
    refine cells_of_heap hg jj u ?_
    rw [List.getElem?_append_left (List.getElem?_eq_some_iff.1 hu).1]
    exact hu
  have hrun := run_append_grow (P := X.P) w t ty e i z ht hi hz ⟨g, 0, none⟩ n cap xs hxl holds a m c news hl hnw (by omega) (by simp only [maxLen] at h63; omega) (growslice_fits (by omega) hbytes)
  unfold appSem
  simp only [Sem.run_bind, hrun, Result.andThen, Sem.run_pure]
  have hge := grownCap_ge w (n + m) cap e
  have hr2 := hr w.heap.size (grownCap w (n + m) cap e - (n + m)) g0.kp.size
  unfold spareN at hr2
  rw [capN_is hge (grownCap_le_maxLen w (n + m) cap e h63)] at hr2
  have e1 : xs.toArray ++ news.toArray ++ Builtin.zeroCells z.cells (grownCap w (n + m) cap e - (n + m)) = (xs ++ news ++ (Builtin.zeroCells z.cells (grownCap w (n + m) cap e - (n + m))).toList).toArray := by simp
  rw [e1]
  exact hr2 _ _ (((g0.world (Keeps.refl w).drew).alloc (.cells (xs ++ news ++ (Builtin.zeroCells z.cells (grownCap w (n + m) cap e - (n + m))).toList).toArray e (0, 0)) rfl).put (headSem_dst h) _)
theorem run_growR_none (d : Option Tmp) (a : Addr) (m c : Nat) (hm : 0 < m) (h : headSem X.N k st = some (appSem t ty (.slice none 0 0) (.slice (some a) m c), d))
    (news : List Value) (hl : news.length = m * size) (hnews : ∀ w, Kept X.M X.B w → Hp st.hp w → ∀ j u, news[j]? = some u → w.cell? (a.add j) = some u) (h63 : m ≤ maxLen) (hbytes : m * bytes ≤ 140737488355328)
    (hr : ∀ g' x, X.B.heap.size ≤ g' → Run X (nextK k) ((⟨st.sl, (g', .cells (news ++ spareN z m x).toArray e (0, 0)) :: st.hp⟩ : St).put d (.slice (some ⟨g', 0, none⟩) m (capN m x)))) : Run X k st := by
  subst hsize
  subst hby
  intro a0 w g0
  refine head_at h g0 ?_
  have hnw := hnews w g0.kp g0.Hp
  have hrun := run_append_nil (P := X.P) w t ty e i z ht hi hz a m c news hl hnw hm (by simp only [maxLen] at h63; omega) (by omega)
  unfold appSem
  simp only [Sem.run_bind, hrun, Result.andThen, Sem.run_pure]
  have hge := grownCap_ge w m 0 e
  have hr2 := hr w.heap.size (grownCap w m 0 e - m) g0.kp.size
  unfold spareN at hr2
  rw [capN_is hge (grownCap_le_maxLen w m 0 e h63)] at hr2
  have e1 : news.toArray ++ Builtin.zeroCells z.cells (grownCap w m 0 e - m) = (news ++ (Builtin.zeroCells z.cells (grownCap w m 0 e - m)).toList).toArray := by simp
  rw [e1]
  exact hr2 _ _ (((g0.world (Keeps.refl w).drew).alloc (.cells (news ++ (Builtin.zeroCells z.cells (grownCap w m 0 e - m)).toList).toArray e (0, 0)) rfl).put (headSem_dst h) _)
end
/-- A new block and a number. -/
def upd2 (β : Nat → Nat) (nid num b x : Nat) : Nat → Nat := updB (updB β nid b) num x
section
variable {R : Rg} {X : Cx} {k : List KI} {i : Nat}
theorem tri_two (nid num : Nat) (hne : (nid == num) = false) (hnum : numB num = true) (V : (Nat → Nat) → Nat → Nat → Value) (O : (Nat → Nat) → Nat → Obj) (hn : (R.p i).news = [nid, num]) (hv : ∀ β b x, R.v i (upd2 β nid num b x) = V β b x) (ho : ∀ β b x, R.oh i (upd2 β nid num b x) = (b, O β x) :: R.nh i β) (hb : ∀ β b x, R.nm (upd2 β nid num b x) nid = b)
    (hrun : ∀ β w J extra, Kept X.M X.B w → (∀ p ∈ R.nh i β, p.1 < X.B.heap.size → X.M p.1) → (∀ b x, w.heap.size ≤ b → Run (Xw X k w (R.nh i β)) (nextK [.ops R.ops [i], .lp J]) ((⟨R.ns i β ++ extra, (b, O β x) :: R.nh i β⟩ : St).put (R.dst i) (V β b x))) → Run (Xw X k w (R.nh i β)) [.ops R.ops [i], .lp J] ⟨R.ns i β ++ extra, R.nh i β⟩) : R.Tri X k i := by
  intro β w J extra hkp hm hJ
  refine hrun β w J extra hkp hm fun b x hbb => nx_ok (k' := [.lp J]) rfl fun a' w' g => hJ (upd2 β nid num b x) (fun id hid => ?_) (fun id hid hnb => ?_) ?_ a' w' ?_
  · rw [hn] at hid
    rw [List.mem_cons, List.mem_singleton, not_or] at hid
    have h1 : (id == nid) = false := by simpa using hid.1
    have h2 : (id == num) = false := by simpa using hid.2
    unfold upd2 updB
    rw [h1, h2]
    rfl
  · rw [hn] at hid
    rcases List.mem_cons.1 hid with rfl | hid
    · rw [hb]; exact hbb
    · rcases List.mem_cons.1 hid with rfl | hid
      · rw [hnum] at hnb; cases hnb
      · cases hid
  · rw [hn]
    have : ([nid, num].filter fun id => !numB id) = [nid].filter fun id => !numB id := by
      rw [List.filter_cons, List.filter_cons, List.filter_cons, List.filter_nil, hnum]
      rfl
    rw [this]
    exact one_pw _ _ nid
  · rw [putL_put] at g
    rw [hv, ho]
    exact g
end
end Go.Proofs.Ythnhcacoegmdfaa
