/-
  ENGINE: appends in a region that draws its order, as rows of elements.
-/
import Derived.Test.YthnhcacoegmdfaaHXP
namespace Go.Proofs.Ythnhcacoegmdfaa
open Go.RowKit

section
variable {α : Type} {R : Rg} {X : Cx} {k : List KI} {i : Nat} {t ty e : TypeId} {n : Nat} {z : Value} (ht : X.P.underlying t = some (.slice e)) (hs : tySize X.P e = some n) (hz : tyZero X.P e = some z) (hzn : z.cells.size = n) (hby : Nat.ble (tyBytes X.P e) 1000 = true) (c : α → List Value) (hc : ∀ x, (c x).length = n)
include ht hs hz hzn hby hc
theorem tri_grow (nid num : Nat) (hne : (nid == num) = false) (hnum : numB num = true) (g : (Nat → Nat) → Nat) (a : (Nat → Nat) → Addr) (len m cap c' : Nat) (L M : List α) (sp : List Value) (hll : L.length = len) (hml : M.length = m) (h63 : len + m ≤ 1000000) (hgrow : cap < len + m) (hn : (R.p i).news = [nid, num])
    (h : ∀ β extra, headSem X.N [.ops R.ops [i]] ⟨R.ns i β ++ extra, R.nh i β⟩ = some (appSem t ty (.slice (some ⟨g β, 0, none⟩) len cap) (.slice (some (a β)) m c'), R.dst i)) (hj : ∀ β, (R.nh i β)[0]? = some (g β, .cells (L.flatMap c ++ sp).toArray e (0, 0)))
    (hv : ∀ β b x, R.v i (upd2 β nid num b x) = .slice (some ⟨b, 0, none⟩) (len + m) (capN (len + m) x)) (ho : ∀ β b x, R.oh i (upd2 β nid num b x) = (b, .cells ((L ++ M).flatMap c ++ spareN z (len + m) x).toArray e (0, 0)) :: R.nh i β) (hb : ∀ β b x, R.nm (upd2 β nid num b x) nid = b)
    (hq : ∀ β w1, Kept X.M X.B w1 → Hp (R.nh i β) w1 → ∀ j u, (M.flatMap c)[j]? = some u → w1.cell? ((a β).add j) = some u) : R.Tri X k i := by
  obtain ⟨ti, hi, hiz, his, hib⟩ := info_of hs hz
  have hbl := Nat.le_of_ble_eq_true hby
  refine tri_two nid num hne hnum (fun _ b x => .slice (some ⟨b, 0, none⟩) (len + m) (capN (len + m) x)) (fun _ x => .cells ((L ++ M).flatMap c ++ spareN z (len + m) x).toArray e (0, 0)) hn hv ho hb fun β w J extra hkp hm hK => ?_
  have key : headSem X.N [.ops R.ops [i], .lp J] ⟨R.ns i β ++ extra, R.nh i β⟩ = some (appSem t ty (.slice (some ⟨g β, 0, none⟩) len cap) (.slice (some (a β)) m c'), R.dst i) := h β extra
  refine run_growR (X := Xw X k w (R.nh i β)) ht hi hiz his hib hzn (R.dst i) 0 (g β) len cap (L.flatMap c) sp (a β) m c' key (hj β) (by rw [flat_len hc, hll]) (M.flatMap c) (by rw [flat_len hc, hml]) (fun w1 k1 k2 => hq β w1 (hkp.trans k1 fun b hb ⟨o, ho⟩ => hm _ ho hb) k2) (by simp only [maxLen]; omega) (Nat.le_trans (Nat.mul_le_mul h63 hbl) (by omega)) hgrow fun g' x q1 => ?_
  have := hK g' x q1
  rw [List.flatMap_append] at this
  exact this
theorem tri_grow_none (nid num : Nat) (hne : (nid == num) = false) (hnum : numB num = true) (a : (Nat → Nat) → Addr) (m c' : Nat) (M : List α) (hml : M.length = m) (hm0 : 0 < m) (h63 : m ≤ 1000000) (hn : (R.p i).news = [nid, num])
    (h : ∀ β extra, headSem X.N [.ops R.ops [i]] ⟨R.ns i β ++ extra, R.nh i β⟩ = some (appSem t ty (.slice none 0 0) (.slice (some (a β)) m c'), R.dst i))
    (hv : ∀ β b x, R.v i (upd2 β nid num b x) = .slice (some ⟨b, 0, none⟩) m (capN m x)) (ho : ∀ β b x, R.oh i (upd2 β nid num b x) = (b, .cells (M.flatMap c ++ spareN z m x).toArray e (0, 0)) :: R.nh i β) (hb : ∀ β b x, R.nm (upd2 β nid num b x) nid = b)
    (hq : ∀ β w1, Kept X.M X.B w1 → Hp (R.nh i β) w1 → ∀ j u, (M.flatMap c)[j]? = some u → w1.cell? ((a β).add j) = some u) : R.Tri X k i := by
  obtain ⟨ti, hi, hiz, his, hib⟩ := info_of hs hz
  have hbl := Nat.le_of_ble_eq_true hby
  refine tri_two nid num hne hnum (fun _ b x => .slice (some ⟨b, 0, none⟩) m (capN m x)) (fun _ x => .cells (M.flatMap c ++ spareN z m x).toArray e (0, 0)) hn hv ho hb fun β w J extra hkp hm hK => ?_
  have key : headSem X.N [.ops R.ops [i], .lp J] ⟨R.ns i β ++ extra, R.nh i β⟩ = some (appSem t ty (.slice none 0 0) (.slice (some (a β)) m c'), R.dst i) := h β extra
  exact run_growR_none (X := Xw X k w (R.nh i β)) ht hi hiz his hib hzn (R.dst i) (a β) m c' hm0 key (M.flatMap c) (by rw [flat_len hc, hml]) (fun w1 k1 k2 => hq β w1 (hkp.trans k1 fun b hb ⟨o, ho⟩ => hm _ ho hb) k2) (by simp only [maxLen]; omega) (Nat.le_trans (Nat.mul_le_mul h63 hbl) (by omega)) fun g' x q1 => hK g' x q1
omit hzn hby in
theorem tri_room (h1 : ∀ x, ∀ u ∈ c x, u.oneCell' = true) (g : (Nat → Nat) → Nat) (a : (Nat → Nat) → Addr) (r : (Nat → Nat) → List (Nat × Obj)) (len m cap c' : Nat) (L M : List α) (sp : List Value) (hll : L.length = len) (hml : M.length = m) (hcl : (L.flatMap c ++ sp).length = cap * n) (hroom : len + m ≤ cap) (hn : (R.p i).news = [])
    (h : ∀ β extra, headSem X.N [.ops R.ops [i]] ⟨R.ns i β ++ extra, R.nh i β⟩ = some (appSem t ty (.slice (some ⟨g β, 0, none⟩) len cap) (.slice (some (a β)) m c'), R.dst i)) (hj : ∀ β, R.nh i β = (g β, .cells (L.flatMap c ++ sp).toArray e (0, 0)) :: r β)
    (hv : ∀ β, R.v i β = .slice (some ⟨g β, 0, none⟩) (len + m) cap) (ho : ∀ β, R.oh i β = (g β, .cells ((L ++ M).flatMap c ++ sp.drop (m * n)).toArray e (0, 0)) :: r β)
    (hq : ∀ β w1, Kept X.M X.B w1 → Hp (R.nh i β) w1 → ∀ j u, (M.flatMap c)[j]? = some u → w1.cell? ((a β).add j) = some u) : R.Tri X k i := by
  obtain ⟨ti, hi, hiz, his, hib⟩ := info_of hs hz
  have f1 : (L.flatMap c).length = len * n := by rw [flat_len hc, hll]
  have f2 : (M.flatMap c).length = m * n := by rw [flat_len hc, hml]
  intro β w J extra hkp hm hJ
  have key : headSem X.N [.ops R.ops [i], .lp J] ⟨R.ns i β ++ extra, R.nh i β⟩ = some (appSem t ty (.slice (some ⟨g β, 0, none⟩) len cap) (.slice (some (a β)) m c'), R.dst i) := h β extra
  refine run_roomR (X := Xw X k w (R.nh i β)) ht hi his (R.dst i) 0 (g β) len cap (L.flatMap c ++ sp) (a β) m c' key (by rw [hj]; rfl) hcl (M.flatMap c) f2 (fun w1 k1 k2 => hq β w1 (hkp.trans k1 fun b hb ⟨o, ho⟩ => hm _ ho hb) k2) (flat_one h1 M) hroom ((L ++ M).flatMap c ++ sp.drop (m * n)) ?_ (nx_ok (k' := [.lp J]) rfl fun a' w' g0 => hJ β (fun _ _ => rfl) (fun id hid => by rw [hn] at hid; cases hid) (by rw [hn]; exact List.Pairwise.nil) a' w' ?_)
  · rw [f2, ← f1, List.take_left, ← List.drop_drop, List.drop_left, List.flatMap_append]
  · rw [putL_put] at g0
    rw [hv, ho]
    rw [show (⟨R.ns i β ++ extra, R.nh i β⟩ : St).hp.set 0 (g β, .cells ((L ++ M).flatMap c ++ sp.drop (m * n)).toArray e (0, 0)) = (g β, .cells ((L ++ M).flatMap c ++ sp.drop (m * n)).toArray e (0, 0)) :: r β from by rw [hj]; rfl] at g0
    exact g0
theorem tri_growW (nid num : Nat) (hne : (nid == num) = false) (hnum : numB num = true) (g : (Nat → Nat) → Nat) (a : (Nat → Nat) → Addr) (len m cap c' : Nat) (L M : List α) (sp : List Value) (hll : L.length = len) (hml : M.length = m) (h63 : len + m ≤ 1000000) (hgrow : cap < len + m) (hn : (R.p i).news = [nid, num])
    (h : ∀ β extra, headSem X.N [.ops R.ops [i]] ⟨R.ns i β ++ extra, R.nh i β⟩ = some (appSem t ty (.slice (some ⟨g β, 0, none⟩) len cap) (.slice (some (a β)) m c'), R.dst i)) (hj : ∀ β, (R.nh i β)[0]? = some (g β, .cells (L.flatMap c ++ sp).toArray e (0, 0)))
    (hv : ∀ β b x, R.v i (upd2 β nid num b x) = .slice (some ⟨b, 0, none⟩) (len + m) (capN (len + m) x)) (ho : ∀ β b x, R.oh i (upd2 β nid num b x) = (b, .cells ((L ++ M).flatMap c ++ spareN z (len + m) x).toArray e (0, 0)) :: R.nh i β) (hb : ∀ β b x, R.nm (upd2 β nid num b x) nid = b)
    (hq : ∀ β w1, Kept X.M X.B w1 → Hp (R.nh i β) w1 → ∀ j u, (M.flatMap c)[j]? = some u → w1.cell? ((a β).add j) = some u) : TriW R X k i := ⟨tri_grow ht hs hz hzn hby c hc nid num hne hnum g a len m cap c' L M sp hll hml h63 hgrow hn h hj hv ho hb hq⟩
theorem tri_grow_noneW (nid num : Nat) (hne : (nid == num) = false) (hnum : numB num = true) (a : (Nat → Nat) → Addr) (m c' : Nat) (M : List α) (hml : M.length = m) (hm0 : 0 < m) (h63 : m ≤ 1000000) (hn : (R.p i).news = [nid, num])
    (h : ∀ β extra, headSem X.N [.ops R.ops [i]] ⟨R.ns i β ++ extra, R.nh i β⟩ = some (appSem t ty (.slice none 0 0) (.slice (some (a β)) m c'), R.dst i))
    (hv : ∀ β b x, R.v i (upd2 β nid num b x) = .slice (some ⟨b, 0, none⟩) m (capN m x)) (ho : ∀ β b x, R.oh i (upd2 β nid num b x) = (b, .cells (M.flatMap c ++ spareN z m x).toArray e (0, 0)) :: R.nh i β) (hb : ∀ β b x, R.nm (upd2 β nid num b x) nid = b)
    (hq : ∀ β w1, Kept X.M X.B w1 → Hp (R.nh i β) w1 → ∀ j u, (M.flatMap c)[j]? = some u → w1.cell? ((a β).add j) = some u) : TriW R X k i := ⟨tri_grow_none ht hs hz hzn hby c hc nid num hne hnum a m c' M hml hm0 h63 hn h hv ho hb hq⟩
omit hzn hby in
theorem tri_roomW (h1 : ∀ x, ∀ u ∈ c x, u.oneCell' = true) (g : (Nat → Nat) → Nat) (a : (Nat → Nat) → Addr) (r : (Nat → Nat) → List (Nat × Obj)) (len m cap c' : Nat) (L M : List α) (sp : List Value) (hll : L.length = len) (hml : M.length = m) (hcl : (L.flatMap c ++ sp).length = cap * n) (hroom : len + m ≤ cap) (hn : (R.p i).news = [])
    (h : ∀ β extra, headSem X.N [.ops R.ops [i]] ⟨R.ns i β ++ extra, R.nh i β⟩ = some (appSem t ty (.slice (some ⟨g β, 0, none⟩) len cap) (.slice (some (a β)) m c'), R.dst i)) (hj : ∀ β, R.nh i β = (g β, .cells (L.flatMap c ++ sp).toArray e (0, 0)) :: r β)
    (hv : ∀ β, R.v i β = .slice (some ⟨g β, 0, none⟩) (len + m) cap) (ho : ∀ β, R.oh i β = (g β, .cells ((L ++ M).flatMap c ++ sp.drop (m * n)).toArray e (0, 0)) :: r β)
    (hq : ∀ β w1, Kept X.M X.B w1 → Hp (R.nh i β) w1 → ∀ j u, (M.flatMap c)[j]? = some u → w1.cell? ((a β).add j) = some u) : TriW R X k i := ⟨tri_room ht hs hz c hc h1 g a r len m cap c' L M sp hll hml hcl hroom hn h hj hv ho hq⟩
end
theorem room_len {α : Type} {c : α → List Value} {n : Nat} (hc : ∀ x, (c x).length = n) {L M : List α} {sp : List Value} {len m cap : Nat} (hll : L.length = len) (hml : M.length = m) (hcl : (L.flatMap c ++ sp).length = cap * n) (hroom : len + m ≤ cap) : ((L ++ M).flatMap c ++ sp.drop (m * n)).length = cap * n := by
  have f1 : (L.flatMap c).length = len * n := by rw [flat_len hc, hll]
  have f2 : (M.flatMap c).length = m * n := by rw [flat_len hc, hml]
  have h := Nat.mul_le_mul_right n hroom
  rw [Nat.add_mul] at h
  simp only [List.flatMap_append, List.length_append, List.length_drop, f1, f2] at hcl ⊢
  omega
theorem grow_len {α : Type} {c : α → List Value} {n : Nat} (hc : ∀ x, (c x).length = n) {L : List α} {l : Nat} (hl : L.length = l) (h : l ≤ maxLen) (z : Value) (hz : z.cells.size = n) (x : Nat) : (L.flatMap c ++ spareN z l x).length = capN l x * n := spareN_len z h x hz (by rw [flat_len hc, hl])
/-- A block of the call's own that is not the one that it may write to is new. -/
theorem run_ge {X : Cx} {k : List KI} {st : St} (j j0 b ba : Nat) {o o0 : Obj} (hj : st.hp[j]? = some (b, o)) (hj0 : st.hp[j0]? = some (ba, o0)) (hne : j ≠ j0) (hM : ∀ x, X.M x → x = ba) (hr : X.B.heap.size ≤ b → Run X k st) : Run X k st := by
  intro a w g
  refine hr ?_ a w g
  have h1 := (g.hp _ (List.mem_of_getElem? hj)).2
  rcases Nat.lt_or_ge b X.B.heap.size with hlt | hge
  · exact absurd (hM _ (h1 hlt)) (pairwise_ne g.ne hj hj0 hne)
  · exact hge
end Go.Proofs.Ythnhcacoegmdfaa
