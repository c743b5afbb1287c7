/-
  WARM: the numbers of WarmNext: how many pairs an exact reading leaves; the best offer; readings appended to a row of the call's own.
-/
import Derived.Test.YtmhpgjlegajpeaaT1
import Derived.Laws.OwnMore
import Derived.Deep.RegionLaw
import Derived.Deep.RegionHeld3
namespace Go.Proofs.Ytmhpgjlegajpeaa
open Go.RowKit

/-- What a pair shows at a warmth. -/
def atT (m t : Int) (p : Pr) : Int := shI m p.1.1 p.1.2 t
theorem canB_exact (m t n : Int) (p : Pr) : canB m p.1 (t, t, n, n) = (atT m t p == n) := by
  unfold canB atT
  rw [Bool.eq_iff_iff]
  rw [beq_iff_eq, Bool.not_eq_true', List.isEmpty_eq_false_iff]
  constructor
  · intro h
    obtain ⟨x, hx⟩ := List.exists_mem_of_ne_nil _ h
    have := warms_mem.1 hx
    obtain ⟨⟨h1, h2⟩, h3, h4⟩ := this
    dsimp only at h1 h2 h3 h4
    obtain rfl : x = t := by omega
    omega
  · intro h e
    have hm : t ∈ warms m p.1 (t, t, n, n) := warms_mem.2 ⟨by dsimp only; omega, by dsimp only; omega⟩
    rw [e] at hm
    cases hm
/-- A block with an exact reading more. -/
def exB (B : Wm) (t n : Int) (ra : Option Addr) (rc : Nat) : Wm := ⟨B.mark, B.llo, B.lhi, B.clo, B.chi, ra, rc, B.rs ++ [(t, t, n, n)]⟩
theorem exB_ok {B : Wm} (hok : B.ok = true) (h5 : B.rs.length < 5) {t n : Int} (t0 : -100 ≤ t) (t1 : t ≤ 100) (n0 : -30000 ≤ n) (n1 : n ≤ 30000) (ra : Option Addr) (rc : Nat) : (exB B t n ra rc).ok = true := by
  obtain ⟨_, hw⟩ := vWrs_at (Wm.ok_reads hok)
  simp only [Wm.ok, Bool.and_eq_true, decide_eq_true_eq] at hok
  unfold Wm.ok exB
  dsimp only
  simp only [Bool.and_eq_true, decide_eq_true_eq]
  refine ⟨hok.1, ?_⟩
  unfold vWrs
  simp only [Bool.and_eq_true, decide_eq_true_eq]
  refine ⟨by rw [List.length_append, List.length_singleton]; omega, List.all_eq_true.2 fun r hr => ?_⟩
  rcases List.mem_append.1 hr with h | h
  · exact hw r h
  · rw [List.mem_singleton.1 h]
    unfold vWr inS
    dsimp only
    simp only [Bool.and_eq_true, decide_eq_true_eq]
    omega
theorem exB_count {B : Wm} (hok : B.ok = true) (h5 : B.rs.length < 5) {t n : Int} (t0 : -100 ≤ t) (t1 : t ≤ 100) (n0 : -30000 ≤ n) (n1 : n ≤ 30000) (ra : Option Addr) (rc : Nat) : (exB B t n ra rc).countA = ((cnt (atT B.mark t) B.truths n : Int), 0) := by
  unfold Wm.countA
  rw [if_pos (exB_ok hok h5 t0 t1 n0 n1 ra rc)]
  have e : (exB B t n ra rc).truths = B.truths.filter (fun p => atT B.mark t p == n) := by
    have ha : (exB B t n ra rc).all = B.all := rfl
    unfold Wm.truths Wm.leftBy
    rw [ha, List.filter_filter]
    congr 1
    funext p
    show okAll B.mark (B.rs ++ [(t, t, n, n)]) p = _
    unfold okAll
    rw [List.all_append, List.all_cons, List.all_nil, Bool.and_true, canB_exact, Bool.and_comm]
  rw [e]
  rfl
/-- How many pairs show less than n. -/
def cntBelow (f : Pr → Int) (l : List Pr) (n : Int) : Nat := (l.filter (fun p => decide (f p < n))).length
theorem cntBelow_next (f : Pr → Int) (l : List Pr) (n : Int) : cntBelow f l (n + 1) = cntBelow f l n + cnt f l n := by
  unfold cntBelow cnt
  induction l with
  | nil => rfl
  | cons p l ih =>
    rw [List.filter_cons, List.filter_cons, List.filter_cons]
    by_cases h1 : f p < n
    · have h2 : f p < n + 1 := by omega
      have h3 : ¬ f p = n := by omega
      simp [h1, h2, h3]; omega
    · by_cases h3 : f p = n
      · have h4 : n < n + 1 := by omega
        simp [h3, h4]; omega
      · have h2 : ¬ f p < n + 1 := by omega
        simp [h1, h2, h3]; omega
/-- What most has found once all below n are gone through. -/
def MostTo (f : Pr → Int) (l : List Pr) (n : Int) (worst all : Nat) : Prop := (∀ z, z < n → cnt f l z ≤ worst) ∧ (worst = 0 ∨ ∃ z, cnt f l z = worst) ∧ all = cntBelow f l n
theorem cnt_zero {f : Pr → Int} {l : List Pr} {z : Int} (h : ∀ p ∈ l, f p ≠ z) : cnt f l z = 0 := by
  unfold cnt
  rw [List.filter_eq_nil_iff.2 (fun p hp => by have := h p hp; simpa using this)]
  rfl
theorem MostTo.start {f : Pr → Int} {l : List Pr} {n : Int} (h : ∀ p ∈ l, n ≤ f p) : MostTo f l n 0 0 := by
  refine ⟨fun z hz => ?_, .inl rfl, ?_⟩
  · rw [cnt_zero (fun p hp => by have := h p hp; omega)]; exact Nat.le_refl _
  · unfold cntBelow
    rw [List.filter_eq_nil_iff.2 (fun p hp => by have := h p hp; simp; omega)]
    rfl
theorem MostTo.next {f : Pr → Int} {l : List Pr} {n : Int} {worst all : Nat} (h : MostTo f l n worst all) : MostTo f l (n + 1) (max worst (cnt f l n)) (all + cnt f l n) := by
  obtain ⟨h1, h2, h3⟩ := h
  refine ⟨fun z hz => ?_, ?_, by rw [h3, cntBelow_next]⟩
  · by_cases e : z = n
    · subst e; omega
    · have := h1 z (by omega); omega
  · rcases Nat.le_total worst (cnt f l n) with h | h
    · exact .inr ⟨n, by omega⟩
    · rw [show max worst (cnt f l n) = worst by omega]; exact h2
theorem MostTo.stop {f : Pr → Int} {l : List Pr} {n : Int} {worst all : Nat} (h : MostTo f l n worst all) (hn : ∀ p ∈ l, f p < n) : worst = alikeN f l ∧ all = l.length := by
  obtain ⟨h1, h2, h3⟩ := h
  refine ⟨IsMost.uniq ⟨fun z => ?_, h2⟩ (alike_most f l), ?_⟩
  · by_cases hz : z < n
    · exact h1 z hz
    · rw [cnt_zero (fun p hp => by have := hn p hp; omega)]; exact Nat.zero_le _
  · rw [h3]
    unfold cntBelow
    rw [List.filter_eq_self.2 (fun p hp => by simpa using hn p hp)]
/-- The best offer is the first of those that cost least. -/
theorem bestTo_is (f : Int → Int) (xs : List Int) : ∀ k, 0 < k → ∃ i : Nat, bestTo f xs k = ((i : Int), f (xs[i]?.getD 0)) ∧ i < k ∧ ∀ j, j < k → f (xs[i]?.getD 0) ≤ f (xs[j]?.getD 0) ∧ (f (xs[j]?.getD 0) = f (xs[i]?.getD 0) → i ≤ j)
  | 0, h => absurd h (by omega)
  | 1, _ => ⟨0, by rw [bestTo_yes (.inl rfl)], by omega, fun j hj => by
      obtain rfl : j = 0 := by omega
      exact ⟨Int.le_refl _, fun _ => Nat.le_refl _⟩⟩
  | k + 2, _ => by
    obtain ⟨i, h1, h2, h3⟩ := bestTo_is f xs (k + 1) (by omega)
    by_cases hlt : f (xs[k + 1]?.getD 0) < f (xs[i]?.getD 0)
    · refine ⟨k + 1, by rw [bestTo_yes (.inr (by rw [h1]; exact hlt))], by omega, fun j hj => ?_⟩
      by_cases e : j = k + 1
      · subst e; exact ⟨Int.le_refl _, fun _ => Nat.le_refl _⟩
      · have := (h3 j (by omega)).1
        exact ⟨by omega, fun h => by omega⟩
    · refine ⟨i, by rw [bestTo_no (by omega) (by rw [h1]; exact hlt)]; exact h1, by omega, fun j hj => ?_⟩
      by_cases e : j = k + 1
      · subst e; exact ⟨by omega, fun _ => by omega⟩
      · exact h3 j (by omega)
theorem wrCells_one (l : List Wr) : ∀ u ∈ wrCells l, u.oneCell' = true := by
  intro u hu
  obtain ⟨r, _, h⟩ := List.mem_flatMap.1 hu
  simp at h
  rcases h with rfl | rfl | rfl | rfl <;> rfl
theorem wrCells_length (l : List Wr) : (wrCells l).length = l.length * 4 := by
  induction l with
  | nil => rfl
  | cons s l ih =>
    have e : wrCells (s :: l) = .int .i64 s.1 :: .int .i64 s.2.1 :: .int .i64 s.2.2.1 :: .int .i64 s.2.2.2 :: wrCells l := rfl
    rw [e]; simp [ih]; omega
theorem wrCells_news {w : World} {b o : Nat} {rs : List Wr} (hc : ∀ i, i < rs.length → w.cell? ⟨b, o + i * 4, none⟩ = some (.int .i64 (rs[i]?.getD (0, 0, 0, 0)).1) ∧
    w.cell? ⟨b, o + i * 4 + 1, none⟩ = some (.int .i64 (rs[i]?.getD (0, 0, 0, 0)).2.1) ∧ w.cell? ⟨b, o + i * 4 + 2, none⟩ = some (.int .i64 (rs[i]?.getD (0, 0, 0, 0)).2.2.1) ∧ w.cell? ⟨b, o + i * 4 + 3, none⟩ = some (.int .i64 (rs[i]?.getD (0, 0, 0, 0)).2.2.2)) :
    ∀ j u, (wrCells rs)[j]? = some u → w.cell? ((⟨b, o, none⟩ : Addr).add j) = some u := by
  intro j u hu
  have hadd : (⟨b, o, none⟩ : Addr).add j = ⟨b, o + j, none⟩ := by unfold Addr.add; split <;> simp_all
  rw [hadd]
  have hj : j < (wrCells rs).length := (List.getElem?_eq_some_iff.1 hu).1
  rw [wrCells_length] at hj
  have hi : j / 4 < rs.length := by omega
  obtain ⟨h0, h1, h2, h3⟩ := wrCells_at rs (j / 4) hi
  obtain ⟨c0, c1, c2, c3⟩ := hc (j / 4) hi
  have hm : j % 4 < 4 := Nat.mod_lt _ (by omega)
  rw [Nat.add_assoc] at c1 c2 c3
  rcases (by omega : j / 4 * 4 = j ∨ j / 4 * 4 + 1 = j ∨ j / 4 * 4 + 2 = j ∨ j / 4 * 4 + 3 = j) with e | e | e | e
  · rw [e] at h0 c0; rw [c0, ← h0, hu]
  · rw [e] at h1 c1; rw [c1, ← h1, hu]
  · rw [e] at h2 c2; rw [c2, ← h2, hu]
  · rw [e] at h3 c3; rw [c3, ← h3, hu]
theorem grownBy_refl (w : World) (row : Option Nat) : w.grownBy w row := ⟨rfl, rfl, rfl, Nat.le_refl _, fun _ _ _ => rfl⟩
/-- The row v is grown to v', which holds xs. -/
def Grew (base : Nat) (v : Value) (n : Nat) (xs : List Value) (w : World) (v' : Value) (w' : World) : Prop := w'.ownsRow base 53 4 v' n xs ∧ w.grownBy w' v.ownBlock
/-- Readings appended to a row of the call's own, whatever they lie in. -/
theorem append_reads (w : World) (base : Nat) (ty : TypeId) (v : Value) (n : Nat) (xs : List Value) (hown : w.ownsRow base 53 4 v n xs) (ra : Option Addr) (rc : Nat) (rs : List Wr) (hr : Wrs w ra rs) (hn : n + rs.length ≤ 100) (hbase : base ≤ w.heap.size) :
    ∃ v' w', (Builtin.append_ #[24, 24] ty #[v, .slice ra rs.length rc]).run Try.prog w = .ok v' w' ∧ Grew base v (n + rs.length) (xs ++ wrCells rs) w v' w' := by
  obtain ⟨i0, hi, hz0, hz1, hz2⟩ := info_parts info_read
  have own := fun (a : Addr) (hnews : ∀ j u, (wrCells rs)[j]? = some u → w.cell? (a.add j) = some u) => run_append_own (P := Try.prog) w base 24 ty 53 i0 (.agg #[.int .i64 0, .int .i64 0, .int .i64 0, .int .i64 0]) 4 32 Try.underlying24 hi hz0 hz1 hz2 rfl (by decide) v n xs hown a rs.length rc (wrCells rs) (wrCells_length rs) hnews (wrCells_one rs) (by unfold maxLen; omega) (by omega) hbase
  by_cases hne : rs = []
  · subst hne
    cases ra with
    | some a =>
      obtain ⟨v', w', h1, h2, h3, _⟩ := own a (fun j u hu => by simp [wrCells] at hu)
      exact ⟨v', w', h1, ⟨h2, h3⟩⟩
    | none =>
      refine ⟨v, w, ?_, ⟨by simpa [wrCells] using hown, grownBy_refl w _⟩⟩
      rcases hown.2 with ⟨rfl, rfl⟩ | ⟨g, cap, cur, rfl, _, _, hnc, _⟩
      · simp [Builtin.append_, run_underlying Try.underlying24, sizeOf, typeInfo, hi, Builtin.lenOf, Builtin.firstCells]
      · simp [Builtin.append_, run_underlying Try.underlying24, sizeOf, typeInfo, hi, Builtin.lenOf, Builtin.firstCells, hnc, storeCells]
  · obtain ⟨b, o, rfl, hc⟩ := hr hne
    obtain ⟨v', w', h1, h2, h3, _⟩ := own ⟨b, o, none⟩ (wrCells_news hc)
    exact ⟨v', w', h1, ⟨h2, h3⟩⟩
/-- An append at a step of a region that draws its order, by its run. -/
theorem step_append_run {P : Program} {w : World} {ops : Array Oper} {o : Oper} {a : Act} {K : Act → World → Prop} {Q : Exit → Act → World → Prop} {E : Prop} (hgd : o.guard = none) (s x : Operand) (t : TypeId)
    (ho : o.op = .call { callee := .builtin .append, args := #[s, x], argTypes := #[t, t] }) (v u : Value) (hs : a.eval s = v) (hx : a.eval x = u) (R : Value → World → Prop)
    (hr : ∃ v' w', (Builtin.append_ #[t, t] o.type #[v, u]).run P w = .ok v' w' ∧ R v' w')
    (h : ∀ v' w', R v' w' → K (a.put o.dst v') w') : if Region.wanted o (yielded ops a.tmps) = true then Oper.wp P o a w K Q else E := by
  have hw : Region.wanted o (yielded ops a.tmps) = true := by simp [Region.wanted, hgd]
  rw [if_pos hw]
  obtain ⟨v', w', hr, hR⟩ := hr
  unfold Oper.wp execOp
  simp only [ho, resolve, invoke, builtin, Sem.run_bind, Sem.run_pure, Result.andThen_ok, List.map_toArray, List.map_cons, List.map_nil, hs, hx, hr]
  exact h v' w' hR
end Go.Proofs.Ytmhpgjlegajpeaa
