/-
  ENGINE: rows of elements that grow and shrink in place: cuts, append where there is room, copy, clear.
-/
import Derived.Test.YtmiobcnccbfknaaXI
import Derived.Test.YtmiobcnccbfknaaXG
import Derived.Laws.CopyOwn
import Derived.Laws.IdiomCopy
import Derived.Laws.Slices
namespace Go.Proofs.Ytmiobcnccbfknaa
open Go.RowKit

/-- An operation that writes to a block of the call's own and gives a value. -/
theorem run_upd {X : Cx} {k : List KI} {st : St} (s : Sem Next) (d : Option Tmp) (v : Value) (j b : Nat) (c c' : List Value) (e : TypeId)
    (h : headSem X.N k st = some (s, d)) (hj : st.hp[j]? = some (b, .cells c.toArray e (0, 0)))
    (hq : ∀ w, Kept X.M X.B w → Hp st.hp w → s.run X.P w = .ok (.value v) (w.setRow b c'.toArray))
    (hr : Run X (nextK k) ((⟨st.sl, st.hp.set j (b, .cells c'.toArray e (0, 0))⟩ : St).put d v)) : Run X k st := by
  intro a w g
  refine head_at h g ?_
  rw [hq w g.kp g.Hp]
  exact hr _ _ ((g.setRow hj c'.toArray).put (headSem_dst h) _)
theorem tri_upd {R : Rg} {X : Cx} {k : List KI} {i : Nat} (s : (Nat → Nat) → Sem Next) (b : (Nat → Nat) → Nat) (c c' : List Value) (e : TypeId) (hn : (R.p i).news = []) (h : ∀ β extra, headSem X.N [.ops R.ops [i]] ⟨R.ns i β ++ extra, R.nh i β⟩ = some (s β, R.dst i))
    (hh : ∀ β, R.nh i β = [(b β, .cells c.toArray e (0, 0))]) (ho : ∀ β, R.oh i β = [(b β, .cells c'.toArray e (0, 0))]) (hq : ∀ β w, Kept X.M X.B w → Hp (R.nh i β) w → (s β).run X.P w = .ok (.value (R.v i β)) (w.setRow (b β) c'.toArray)) : R.Tri X k i := by
  intro β w J extra hkp hm hJ
  have key : headSem X.N [.ops R.ops [i], .lp J] ⟨R.ns i β ++ extra, R.nh i β⟩ = some (s β, R.dst i) := h β extra
  refine run_upd (X := Xw X k w (R.nh i β)) (s β) (R.dst i) (R.v i β) 0 (b β) c c' e key (by rw [hh]; rfl) (fun w1 k1 k2 => hq β w1 (hkp.trans k1 fun b hb ⟨o, ho⟩ => hm _ ho hb) k2) (nx_ok (k' := [.lp J]) rfl fun a' w' g => hJ β (fun _ _ => rfl) (fun id hid => by rw [hn] at hid; cases hid) (by rw [hn]; exact List.Pairwise.nil) a' w' ?_)
  rw [putL_put] at g
  rw [ho]
  have g2 := g
  rw [show (⟨R.ns i β ++ extra, R.nh i β⟩ : St).hp.set 0 (b β, .cells c'.toArray e (0, 0)) = [(b β, .cells c'.toArray e (0, 0))] from by rw [hh]; rfl] at g2
  exact g2
/-- Where a cut begins. -/
def cutA (b o l m s : Nat) : Addr := if m = l then ⟨b, o, none⟩ else ⟨b, o + l * s, none⟩
theorem size_info {P : Program} {e : TypeId} {n : Nat} (h : tySize P e = some n) : ∃ i, P.info? e = some i ∧ i.size = n := by
  unfold tySize at h
  cases hi : P.info? e with
  | none => rw [hi] at h; cases h
  | some i => rw [hi] at h; exact ⟨i, rfl, by injection h⟩
theorem elem_slice {P : Program} {t e : TypeId} (h : P.underlying t = some (.slice e)) : P.elem t = e := by
  simp [Program.elem, h]
section
variable {P : Program} {t e : TypeId} {n : Nat} (ht : P.underlying t = some (.slice e)) (hs : tySize P e = some n) (b o len cap : Nat) (w : World)
include ht hs
theorem cut_lhm (k k' k'' : IntKind) (l h m : Nat) (h1 : l ≤ h) (h2 : h ≤ m) (h3 : m ≤ cap) :
    (Instr.sliceAt t (.slice (some ⟨b, o, none⟩) len cap) (some (.int k (l : Int))) (some (.int k' (h : Int))) (some (.int k'' (m : Int))) >>= fun v => pure (Next.value v)).run P w = .ok (.value (.slice (some (cutA b o l m n)) (h - l) (m - l))) w := by
  have he := elem_slice ht
  have ht' : P.underlying t = some (.slice (P.elem t)) := by rw [he]; exact ht
  simp only [Sem.run_bind, run_sliceAt_slice w t _ _ _ _ ht', run_slice_lhm w t (some ⟨b, o, none⟩) len cap ht' k k' k'' (l : Int) (h : Int) (m : Int) (by omega) (by omega) (by omega) (by omega), he, sizeOf_run hs w, Result.andThen, Sem.run_pure]
  unfold sliced cutA
  simp only [Int.toNat_natCast]
  split <;> simp [add_none]
theorem cut_lh (k k' : IntKind) (l h : Nat) (h1 : l ≤ h) (h2 : h ≤ cap) :
    (Instr.sliceAt t (.slice (some ⟨b, o, none⟩) len cap) (some (.int k (l : Int))) (some (.int k' (h : Int))) none >>= fun v => pure (Next.value v)).run P w = .ok (.value (.slice (some (cutA b o l cap n)) (h - l) (cap - l))) w := by
  have he := elem_slice ht
  have ht' : P.underlying t = some (.slice (P.elem t)) := by rw [he]; exact ht
  simp only [Sem.run_bind, run_sliceAt_slice w t _ _ _ _ ht', run_slice_lh w t (some ⟨b, o, none⟩) len cap ht' k k' (l : Int) (h : Int) (by omega) (by omega) (by omega), he, sizeOf_run hs w, Result.andThen, Sem.run_pure]
  unfold sliced cutA
  simp only [Int.toNat_natCast]
  split <;> simp [add_none]
theorem cut_l (k : IntKind) (l : Nat) (h1 : l ≤ len) :
    (Instr.sliceAt t (.slice (some ⟨b, o, none⟩) len cap) (some (.int k (l : Int))) none none >>= fun v => pure (Next.value v)).run P w = .ok (.value (.slice (some (cutA b o l cap n)) (len - l) (cap - l))) w := by
  have he := elem_slice ht
  have ht' : P.underlying t = some (.slice (P.elem t)) := by rw [he]; exact ht
  simp only [Sem.run_bind, run_sliceAt_slice w t _ _ _ _ ht', run_slice_l w t (some ⟨b, o, none⟩) len cap ht' k (l : Int) (by omega) (by omega), he, sizeOf_run hs w, Result.andThen, Sem.run_pure]
  unfold sliced cutA
  simp only [Int.toNat_natCast]
  split <;> simp [add_none]
theorem cut_h (k : IntKind) (h : Nat) (h1 : h ≤ cap) :
    (Instr.sliceAt t (.slice (some ⟨b, o, none⟩) len cap) none (some (.int k (h : Int))) none >>= fun v => pure (Next.value v)).run P w = .ok (.value (.slice (some ⟨b, o, none⟩) h cap)) w := by
  have he := elem_slice ht
  have ht' : P.underlying t = some (.slice (P.elem t)) := by rw [he]; exact ht
  simp only [Sem.run_bind, run_sliceAt_slice w t _ _ _ _ ht', run_slice_h w t (some ⟨b, o, none⟩) len cap ht' k (h : Int) (by omega) (by omega), he, sizeOf_run hs w, Result.andThen, Sem.run_pure]
  unfold sliced
  simp only [Int.toNat_natCast]
  split <;> simp [add_none]
end
-- ---- elements one after the other, then zeros
def rowG {α : Type} (c : α → List Value) (z : List Value) (L : List α) (cap : Nat) : List Value := L.flatMap c ++ (List.replicate (cap - L.length) z).flatten
theorem flat_len {α : Type} {c : α → List Value} {n : Nat} (hc : ∀ x, (c x).length = n) : ∀ L : List α, (L.flatMap c).length = L.length * n
  | [] => by simp
  | x :: L => by
    rw [List.flatMap_cons, List.length_append, hc, flat_len hc L, List.length_cons, Nat.add_mul]
    omega
theorem zeros_len {z : List Value} {n : Nat} (hz : z.length = n) : ∀ m, (List.replicate m z).flatten.length = m * n
  | 0 => by simp
  | m + 1 => by
    rw [List.replicate_succ, List.flatten_cons, List.length_append, hz, zeros_len hz m, Nat.add_mul]
    omega
theorem rowG_len {α : Type} {c : α → List Value} {z : List Value} {n : Nat} (hc : ∀ x, (c x).length = n) (hz : z.length = n) {L : List α} {cap : Nat} (h : L.length ≤ cap) : (rowG c z L cap).length = cap * n := by
  unfold rowG
  rw [List.length_append, flat_len hc, zeros_len hz, ← Nat.add_mul]
  congr 1
  omega
theorem flat_get {α : Type} {c : α → List Value} {n : Nat} (hc : ∀ x, (c x).length = n) : ∀ (L : List α) (j : Nat) (u : Value), (L.flatMap c)[j]? = some u → ∃ x, L[j / n]? = some x ∧ (c x)[j % n]? = some u
  | [], j, u, h => by simp at h
  | x :: L, j, u, h => by
    rw [List.flatMap_cons] at h
    by_cases hj : j < n
    · rw [List.getElem?_append_left (by rw [hc]; exact hj)] at h
      refine ⟨x, ?_, by rw [Nat.mod_eq_of_lt hj]; exact h⟩
      rw [Nat.div_eq_of_lt hj]
      rfl
    · rw [List.getElem?_append_right (by rw [hc]; omega), hc] at h
      obtain ⟨y, h1, h2⟩ := flat_get hc L (j - n) u h
      have hn : 0 < n := by
        rcases Nat.eq_zero_or_pos n with h0 | h0
        · subst h0
          have := (List.getElem?_eq_some_iff.1 h2).1
          rw [hc] at this
          omega
        · exact h0
      have e1 : j / n = (j - n) / n + 1 := by
        rw [Nat.div_eq_sub_div hn (by omega)]
      have e2 : j % n = (j - n) % n := Nat.mod_eq_sub_mod (by omega)
      refine ⟨y, ?_, by rw [e2]; exact h2⟩
      rw [e1]
      exact h1
/-- Rows that lie somewhere, element by element, cell by cell. -/
theorem flat_cells {α : Type} {c : α → List Value} {n : Nat} (hc : ∀ x, (c x).length = n) {L : List α} {w : World} {b o : Nat} (h : ∀ i x, L[i]? = some x → ∀ k u, (c x)[k]? = some u → w.cell? ⟨b, o + i * n + k, none⟩ = some u) :
    ∀ j u, (L.flatMap c)[j]? = some u → w.cell? ((⟨b, o, none⟩ : Addr).add j) = some u := by
  intro j u hj
  obtain ⟨x, h1, h2⟩ := flat_get hc L j u hj
  have := h _ _ h1 _ _ h2
  rw [add_none]
  have e : o + j / n * n + j % n = o + j := by
    have := Nat.div_add_mod j n
    rw [Nat.mul_comm] at this
    omega
  rwa [e] at this
theorem flat_one {α : Type} {c : α → List Value} (h : ∀ x, ∀ u ∈ c x, u.oneCell' = true) (L : List α) : ∀ u ∈ L.flatMap c, u.oneCell' = true := by
  intro u hu
  obtain ⟨x, _, hx⟩ := List.mem_flatMap.1 hu
  exact h x u hx
theorem rowG_take {α : Type} {c : α → List Value} {z : List Value} {n : Nat} (hc : ∀ x, (c x).length = n) {L : List α} {cap k : Nat} (h : k ≤ L.length) : (rowG c z L cap).take (k * n) = (L.take k).flatMap c := by
  have hl : ((L.take k).flatMap c).length = k * n := by rw [flat_len hc, List.length_take, Nat.min_eq_left h]
  unfold rowG
  conv => lhs; rw [← List.take_append_drop k L, List.flatMap_append, List.append_assoc]
  rw [List.take_append_of_le_length (by rw [hl]; exact Nat.le_refl _), List.take_of_length_le (by rw [hl]; exact Nat.le_refl _)]
theorem rowG_drop {α : Type} {c : α → List Value} {z : List Value} {n : Nat} (hc : ∀ x, (c x).length = n) {L : List α} {cap k : Nat} (h : k ≤ L.length) : (rowG c z L cap).drop (k * n) = (L.drop k).flatMap c ++ (List.replicate (cap - L.length) z).flatten := by
  have hl : ((L.take k).flatMap c).length = k * n := by rw [flat_len hc, List.length_take, Nat.min_eq_left h]
  unfold rowG
  conv => lhs; rw [← List.take_append_drop k L, List.flatMap_append, List.append_assoc, List.take_append_drop]
  rw [List.drop_append_of_le_length (by rw [hl]; exact Nat.le_refl _), List.drop_of_length_le (by rw [hl]; exact Nat.le_refl _), List.nil_append]
section
variable {α : Type} {c : α → List Value} {z : List Value} {n : Nat} {P : Program} {t ty e : TypeId} (hc : ∀ x, (c x).length = n) (hz : z.length = n) (h1 : ∀ x, ∀ u ∈ c x, u.oneCell' = true)
/-- The row behind the append in slices.Delete. -/
def delG (c : α → List Value) (z : List Value) (L : List α) (cap k n : Nat) : List Value := (L.eraseIdx k).flatMap c ++ (rowG c z L cap).drop ((L.length - 1) * n)
include hc h1 in
theorem del_app (ht : P.underlying t = some (.slice e)) (hs : tySize P e = some n) {b k cap m : Nat} {L : List α} (hk : k < L.length) (hm : m + 1 = L.length) (hcap : L.length ≤ cap) (hz : z.length = n) {w : World} (hw : w.heap[b]? = some (.cells (rowG c z L cap).toArray e (0, 0))) :
    (appSem t ty (.slice (some ⟨b, 0, none⟩) k cap) (.slice (some (cutA b 0 (k + 1) cap n)) (L.length - (k + 1)) (cap - (k + 1)))).run P w = .ok (.value (.slice (some ⟨b, 0, none⟩) m cap)) (w.setRow b (delG c z L cap k n).toArray) := by
  obtain ⟨i, hi, hin⟩ := size_info hs
  have hl : ((L.drop (k + 1)).flatMap c).length = (L.length - (k + 1)) * i.size := by rw [flat_len hc, List.length_drop, hin]
  have hnew : ∀ j u, ((L.drop (k + 1)).flatMap c)[j]? = some u → w.cell? ((cutA b 0 (k + 1) cap n).add j) = some u := by
    intro j u hj
    unfold cutA
    split
    · rename_i he
      rw [show L.drop (k + 1) = [] from List.drop_of_length_le (by omega)] at hj
      simp at hj
    · rw [add_none]
      refine cells_of_heap hw _ _ ?_
      rw [Nat.zero_add, ← List.getElem?_drop, rowG_drop hc (by omega), List.getElem?_append_left (List.getElem?_eq_some_iff.1 hj).1]
      exact hj
  have hrun := run_append_room (P := P) w t ty e i ht hi b k cap _ hw (cutA b 0 (k + 1) cap n) (L.length - (k + 1)) (cap - (k + 1)) ((L.drop (k + 1)).flatMap c) hl hnew (flat_one h1 _) (by omega) (by
    rw [hl, hin, List.size_toArray, rowG_len hc hz hcap, ← Nat.add_mul]
    exact Nat.mul_le_mul_right _ (by omega))
  unfold appSem
  simp only [Sem.run_bind, hrun, Result.andThen, Sem.run_pure]
  have e1 : k + (L.length - (k + 1)) = m := by omega
  have e2 : (rowG c z L cap).toArray.toList.take (k * i.size) ++ (L.drop (k + 1)).flatMap c ++ (rowG c z L cap).toArray.toList.drop (k * i.size + ((L.drop (k + 1)).flatMap c).length) = delG c z L cap k n := by
    rw [hl, hin, ← Nat.add_mul, e1]
    show (rowG c z L cap).take (k * n) ++ _ ++ (rowG c z L cap).drop (m * n) = _
    unfold delG
    rw [rowG_take hc (by omega), ← List.flatMap_append, List.eraseIdx_eq_take_drop_succ, show L.length - 1 = m by omega]
  rw [e1, e2]
include hc hz in
theorem del_clear (ht : P.underlying t = some (.slice e)) {v : Value} (hv : ∀ w, (zeroValue e).run P w = .ok v w) (hvz : (Builtin.zeroCells v.cells 1).toList = z) (hz1 : ∀ u ∈ z, u.oneCell' = true) {b k cap m cc : Nat} {L : List α} (hk : k < L.length) (hm : m + 1 = L.length) (hcap : L.length ≤ cap) {w : World} (hw : w.heap[b]? = some (.cells (delG c z L cap k n).toArray e (0, 0))) :
    (Builtin.clear_ #[t] ty #[.slice (some ⟨b, m * n, none⟩) 1 cc] >>= fun v => pure (Next.value v)).run P w = .ok (.value (.tuple #[])) (w.setRow b (rowG c z (L.eraseIdx k) cap).toArray) := by
  have hel : (L.eraseIdx k).length = m := by rw [List.length_eraseIdx_of_lt hk]; omega
  have hfl : ((L.eraseIdx k).flatMap c).length = m * n := by rw [flat_len hc, hel]
  have hd : (delG c z L cap k n).length = cap * n := by
    unfold delG
    rw [List.length_append, hfl, List.length_drop, rowG_len hc hz hcap, show L.length - 1 = m by omega]
    have := Nat.mul_le_mul_right n (show m ≤ cap by omega)
    omega
  have hst := run_storeCells_at (P := P) b (m * n) e z 0 (delG c z L cap k n).toArray w hw (by
    rw [Nat.add_zero, hz, List.size_toArray, hd]
    have := Nat.mul_le_mul_right n (show m + 1 ≤ cap by omega)
    rw [Nat.add_mul] at this
    omega) hz1
  have e3 : (delG c z L cap k n).toArray.toList.take (m * n + 0) ++ z ++ (delG c z L cap k n).toArray.toList.drop (m * n + 0 + z.length) = rowG c z (L.eraseIdx k) cap := by
    show (delG c z L cap k n).take (m * n) ++ z ++ (delG c z L cap k n).drop (m * n + z.length) = _
    have d1 : (delG c z L cap k n).take (m * n) = (L.eraseIdx k).flatMap c := by
      unfold delG
      rw [List.take_append_of_le_length (by omega), List.take_of_length_le (by omega)]
    have d2 : (delG c z L cap k n).drop (m * n + z.length) = (List.replicate (cap - L.length) z).flatten := by
      unfold delG
      rw [List.drop_append, hfl, List.drop_of_length_le (by omega), List.nil_append, List.drop_drop, hz, show L.length - 1 = m by omega, show m * n + (m * n + n - m * n) = (m + 1) * n by rw [Nat.add_mul]; omega, hm, rowG_drop hc (Nat.le_refl _), List.drop_of_length_le (Nat.le_refl _)]
      simp
    rw [d1, d2]
    unfold rowG
    rw [hel, show cap - m = (cap - L.length) + 1 by omega, List.replicate_succ, List.flatten_cons, List.append_assoc]
  rw [e3] at hst
  simp [Builtin.clear_, run_underlying ht, hv, hvz, hst, Result.andThen]
/-- copy of a row of as many elements into one that is new. -/
theorem copy_run (hs : tySize P e = some n) (hc : ∀ x, (c x).length = n) (h1 : ∀ x, ∀ u ∈ c x, u.oneCell' = true) (hz : z.length = n) (ht : P.underlying t = some (.slice e)) {b cap cs : Nat} {a : Option Addr} {L : List α} {w : World} (hw : w.heap[b]? = some (.cells (rowG c z ([] : List α) L.length).toArray e (0, 0)))
    (hsrc : L ≠ [] → ∃ b' o, a = some ⟨b', o, none⟩ ∧ ∀ j u, (L.flatMap c)[j]? = some u → w.cell? ((⟨b', o, none⟩ : Addr).add j) = some u) :
    (Builtin.copy_ #[t, t] ty #[.slice (some ⟨b, 0, none⟩) L.length cap, .slice a L.length cs] >>= fun v => pure (Next.value v)).run P w = .ok (.value (.int .i64 (L.length : Int))) (w.setRow b (rowG c z L L.length).toArray) := by
  obtain ⟨i, hi, hin⟩ := size_info hs
  have hfull : rowG c z L L.length = L.flatMap c := by unfold rowG; simp
  have hlen : (rowG c z ([] : List α) L.length).length = L.length * n := rowG_len hc hz (Nat.zero_le _)
  have hst := run_storeCells_at (P := P) b 0 e (L.flatMap c) 0 (rowG c z ([] : List α) L.length).toArray w hw (by rw [List.size_toArray, hlen, flat_len hc]; omega) (flat_one h1 L)
  have e3 : (rowG c z ([] : List α) L.length).toArray.toList.take (0 + 0) ++ L.flatMap c ++ (rowG c z ([] : List α) L.length).toArray.toList.drop (0 + 0 + (L.flatMap c).length) = rowG c z L L.length := by
    show (rowG c z ([] : List α) L.length).take 0 ++ _ ++ (rowG c z ([] : List α) L.length).drop (0 + (L.flatMap c).length) = _
    rw [hfull, Nat.zero_add, flat_len hc, List.drop_of_length_le (by omega)]
    simp
  rw [e3] at hst
  have hf : (Builtin.firstCells n L.length (.slice a L.length cs)).run P w = .ok (L.flatMap c).toArray w := by
    by_cases hL : L = []
    · subst hL
      cases a with
      | none => simp [Builtin.firstCells]
      | some a =>
        have := run_firstCells_some (P := P) w n 0 a 0 cs [] (by simp) (fun j v hj => by simp at hj)
        exact this
    · obtain ⟨b', o, rfl, hsr⟩ := hsrc hL
      exact run_firstCells_some (P := P) w n L.length ⟨b', o, none⟩ L.length cs (L.flatMap c) (flat_len hc L) hsr
  have hszr := sizeOf_run hs w
  simp [Builtin.copy_, run_underlying ht, Builtin.lenOf, hszr, hf, hst, Result.andThen, goInt]
end

-- ---- u64
theorem uwr {x : Int} (h1 : 0 ≤ x) (h2 : x ≤ 18446744073709551615) : Value.int .u64 (IntKind.u64.wrap x) = .int .u64 x := congrArg _ (IntWalk.u64_in _ ⟨h1, h2⟩)
theorem and_natu (a b : Nat) (ha : a < 2 ^ 62) (hb : b < 2 ^ 64) : Value.int .u64 (bits .and .u64 (a : Int) (b : Int)) = .int .u64 ((a &&& b : Nat) : Int) := by
  refine congrArg _ ?_
  show IntKind.u64.wrap (((BitVec.ofInt 64 (a : Int) &&& BitVec.ofInt 64 (b : Int)).toNat : Nat) : Int) = _
  rw [BitVec.toNat_and, ofInt_nat a (by omega), ofInt_nat b (by omega)]
  have := Nat.lt_of_le_of_lt (Nat.and_le_left (n := a) (m := b)) ha
  exact IntWalk.u64_in _ (by omega)
theorem shr_runu {P : Program} {w : World} {t : TypeId} (x y : Nat) (hy : y < 64) : (binOp .shr t (.int .u64 (x : Int)) (.int .u64 (y : Int)) >>= fun v => pure (Next.value v)).run P w = .ok (.value (.int .u64 ((x >>> y : Nat) : Int))) w := by
  have e : binOp .shr t (.int .u64 (x : Int)) (.int .u64 (y : Int)) = Op.shift .shr .u64 (x : Int) .u64 (y : Int) := by simp [binOp]
  have hb : IntKind.u64.bits = 64 := rfl
  rw [e, shift_shr_any _ _ _ _ (by omega), hb, show min ((y : Int)).toNat 64 = y by omega]
  have e2 : (x : Int) / 2 ^ y = ((x >>> y : Nat) : Int) := by rw [Nat.shiftRight_eq_div_pow, Int.natCast_ediv, Int.natCast_pow]; rfl
  rw [e2]
  rfl
theorem has_bit (s n : Nat) : (((s >>> n &&& 1 : Nat) : Int) == 1) = s.testBit n := by
  have h := Nat.and_one_is_mod (s >>> n)
  unfold Nat.testBit
  rw [Nat.and_comm 1, h]
  have h2 := Nat.mod_lt (s >>> n) (show 0 < 2 by omega)
  generalize (s >>> n) % 2 = q at h2
  match q, h2 with
  | 0, _ => rfl
  | 1, _ => rfl
theorem andNot_nat (a b : Nat) (ha : a < 2 ^ 62) (hb : b < 2 ^ 62) : Value.int .i64 (bits .andNot .i64 (a : Int) (b : Int)) = .int .i64 ((a ^^^ (a &&& b) : Nat) : Int) := by
  refine congrArg _ ?_
  show IntKind.i64.wrap (((BitVec.ofInt 64 (a : Int) &&& ~~~BitVec.ofInt 64 (b : Int)).toNat : Nat) : Int) = _
  have e : (BitVec.ofInt 64 (a : Int) &&& ~~~BitVec.ofInt 64 (b : Int)).toNat = a ^^^ (a &&& b) := by
    apply Nat.eq_of_testBit_eq
    intro i
    rw [BitVec.testBit_toNat, BitVec.getLsbD_and, BitVec.getLsbD_not, ← BitVec.testBit_toNat, ← BitVec.testBit_toNat, ofInt_nat a (by omega), ofInt_nat b (by omega), Nat.testBit_xor, Nat.testBit_and]
    by_cases hi : i < 64
    · cases a.testBit i <;> cases b.testBit i <;> simp [hi]
    · have : a.testBit i = false := Nat.testBit_lt_two_pow (Nat.lt_of_lt_of_le ha (Nat.pow_le_pow_right (by omega) (by omega)))
      simp [this]
  rw [e]
  refine nat_wrap _ (Nat.lt_trans (Nat.xor_lt_two_pow ha (Nat.lt_of_le_of_lt Nat.and_le_left ha)) (by omega))
-- ---- what is left of a list
/-- The elements, those from the k-th on left out of which f is not so. -/
def keptTo {α : Type} (f : Nat → Bool) (L : List α) (k : Nat) : List α := L.take k ++ ((L.zipIdx.drop k).filter (fun x => f x.2)).map (·.1)
theorem keptTo_all {α : Type} (f : Nat → Bool) (L : List α) : keptTo f L L.length = L := by
  unfold keptTo
  rw [List.drop_of_length_le (by simp)]
  simp
theorem keptTo_zero {α : Type} (f : Nat → Bool) (L : List α) : keptTo f L 0 = (L.zipIdx.filter (fun x => f x.2)).map (·.1) := by simp [keptTo]
theorem zip_drop {α : Type} {L : List α} {k : Nat} (h : k < L.length) : L.zipIdx.drop k = (L[k], k) :: L.zipIdx.drop (k + 1) := by
  rw [List.drop_eq_getElem_cons (by simpa using h)]
  simp
theorem keptTo_at {α : Type} (f : Nat → Bool) {L : List α} {k : Nat} (h : k < L.length) : keptTo f L (k + 1) = L.take k ++ (L[k] :: ((L.zipIdx.drop (k + 1)).filter (fun x => f x.2)).map (·.1)) := by
  unfold keptTo
  rw [List.take_succ_eq_append_getElem h, List.append_assoc]
  rfl
theorem keptTo_out {α : Type} {f : Nat → Bool} {L : List α} {k : Nat} (h : k < L.length) (hf : f k = false) : (keptTo f L (k + 1)).eraseIdx k = keptTo f L k := by
  rw [keptTo_at f h, List.eraseIdx_append_of_length_le (by rw [List.length_take]; omega), keptTo, zip_drop h]
  simp [hf, Nat.min_eq_left (Nat.le_of_lt h)]
theorem keptTo_in {α : Type} {f : Nat → Bool} {L : List α} {k : Nat} (h : k < L.length) (hf : f k = true) : keptTo f L (k + 1) = keptTo f L k := by
  rw [keptTo_at f h, keptTo, zip_drop h]
  simp [hf]
theorem keptTo_len {α : Type} (f : Nat → Bool) {L : List α} {k : Nat} (h : k ≤ L.length) : k ≤ (keptTo f L k).length ∧ (keptTo f L k).length ≤ L.length := by
  have := List.length_filter_le (fun x : α × Nat => f x.2) (L.zipIdx.drop k)
  unfold keptTo
  rw [List.length_append, List.length_map, List.length_take]
  rw [List.length_drop, List.length_zipIdx] at this
  omega
theorem keptTo_mem {α : Type} {f : Nat → Bool} {L : List α} {x : α} (h : x ∈ keptTo f L 0) : x ∈ L := by
  rw [keptTo_zero] at h
  obtain ⟨y, hy, rfl⟩ := List.mem_map.1 h
  have h1 := (List.mem_filter.1 hy).1
  obtain ⟨a, i⟩ := y
  exact (List.mem_zipIdx' h1).2 ▸ List.getElem_mem _
end Go.Proofs.Ytmiobcnccbfknaa
