/-
  FringeAsk, its numbers: a reading of one part more leaves the lengths of that part; all parts together are all lengths; the colour that is told is the first best one.
-/
import Derived.Test.YtgbojgachgodgaaTa
import Derived.Test.YtgbojgachgodgaaWu
import Derived.Test.YtgbojgachgodgaaZp
namespace Go.Proofs.Ytgbojgachgodgaa

/-- The fringe with a reading more. -/
def Fr.more (F : Fr) (r : Rd) (ra : Option Go.Addr) (rc : Nat) : Fr := ⟨F.wa, F.wc, F.ws, F.lo, F.hi, ra, rc, F.rs ++ [r]⟩

theorem more_ok (F : Fr) (h : F.ok = true) (h5 : F.rs.length ≤ 5) (r : Rd) (hr : vRead F.ws.length r = true) (ra : Option Go.Addr) (rc : Nat) : (F.more r ra rc).ok = true := by
  simp only [Fr.ok, vFringe, vReads, Bool.and_eq_true, decide_eq_true_eq, Fr.more] at h ⊢
  refine ⟨h.1, by simp; omega, ?_⟩
  rw [List.all_append, h.2.2]
  simp [hr]
theorem lensTo_more (lo : Nat) (gs : List Rg) (g : Rg) (k : Nat) : lensTo lo (gs ++ [g]) k = (lensTo lo gs k).filter fun x => rightB g ((x.val : Nat) : Int) := by
  induction k with
  | zero => rfl
  | succ k ih =>
    by_cases hl : lo + k < 2001
    · cases ha : gs.all (rightB · ((lo + k : Nat) : Int)) with
      | false =>
        rw [lensTo_no hl ha, lensTo_no hl (by rw [List.all_append, ha]; rfl)]
        exact ih
      | true =>
        rw [lensTo_yes hl ha, List.filter_append, ← ih]
        cases hg : rightB g ((lo + k : Nat) : Int) with
        | true =>
          rw [lensTo_yes hl (by rw [List.all_append, ha, List.all_cons, List.all_nil, hg]; rfl), List.filter_cons_of_pos (by exact hg), List.filter_nil]
        | false =>
          rw [lensTo_no hl (by rw [List.all_append, ha, List.all_cons, List.all_nil, hg]; rfl), List.filter_cons_of_neg (by rw [hg]; simp), List.filter_nil, List.append_nil]
    · have e : ∀ gs : List Rg, lensTo lo gs (k + 1) = lensTo lo gs k := fun gs => by
        simp only [lensTo, List.range_succ, List.filterMap_append, List.filterMap_cons, List.filterMap_nil, dif_neg hl, List.append_nil]
      rw [e, e, ih]
theorem right_one {wv p n : Int} (_h1 : 1 ≤ wv) (hp : p < 20) : rightB (wv, p, p) n = (partI wv n == p) := by
  simp only [rightB, if_pos hp, plainB]
  rw [Bool.eq_iff_iff]
  simp; omega
theorem truths_more (F : Fr) (h : F.ok = true) {c : Nat} (hc : c < F.ws.length) (p : Nat) (hp : p < 20) (ra : Option Go.Addr) (rc : Nat) :
    (F.more ((c : Int), (p : Int), (p : Int)) ra rc).truths.length = cntP (F.ws[c]?.getD 0) F.truths p := by
  have hw := F.wave_in h hc
  unfold Fr.truths cntP lens
  have e : (F.more ((c : Int), (p : Int), (p : Int)) ra rc).gs = F.gs ++ [(F.ws[c]?.getD 0, (p : Int), (p : Int))] := by
    simp [Fr.gs, Fr.more, rgOf]
  rw [e, lensTo_more]
  congr 2
  funext x
  exact right_one (by omega) (by omega)

/-- After q parts: the most lengths of one, and those of all. -/
def worst (wv : Int) (ts : List Ln) (q : Nat) : Nat := maxN ((List.range q).map fun p => cntP wv ts (p : Nat))
def alls (wv : Int) (ts : List Ln) (q : Nat) : Nat := ((List.range q).map fun p => cntP wv ts (p : Nat)).sum
theorem worst_succ (wv : Int) (ts : List Ln) (q : Nat) : worst wv ts (q + 1) = max (worst wv ts q) (cntP wv ts (q : Nat)) := by
  simp [worst, maxN, List.range_succ]
theorem alls_succ (wv : Int) (ts : List Ln) (q : Nat) : alls wv ts (q + 1) = alls wv ts q + cntP wv ts (q : Nat) := by
  simp [alls, List.range_succ]
theorem alls_count (wv : Int) (ts : List Ln) (q : Nat) : alls wv ts q = (ts.filter fun x => decide (partI wv (x.val : Nat) < q ∧ 0 ≤ partI wv (x.val : Nat))).length := by
  induction q with
  | zero =>
    have : (ts.filter fun x => decide (partI wv (x.val : Nat) < (0 : Nat) ∧ 0 ≤ partI wv (x.val : Nat))) = [] := by
      rw [List.filter_eq_nil_iff]; intro x _; simp
    rw [this]; rfl
  | succ q ih =>
    rw [alls_succ, ih]
    unfold cntP
    clear ih
    induction ts with
    | nil => rfl
    | cons x ts iht =>
      simp only [List.filter_cons]
      obtain ⟨e, he⟩ : ∃ e, partI wv ((x.val : Nat) : Int) = e := ⟨_, rfl⟩
      rw [he]
      by_cases h1 : e = (q : Nat)
      · subst h1
        rw [if_neg (show ¬ decide (((q : Nat) : Int) < ((q : Nat) : Int) ∧ (0 : Int) ≤ ((q : Nat) : Int)) = true from by simp), if_pos (show decide (((q : Nat) : Int) < ((q + 1 : Nat) : Int) ∧ (0 : Int) ≤ ((q : Nat) : Int)) = true from decide_eq_true (by omega)), if_pos (beq_self_eq_true _), List.length_cons, List.length_cons]
        omega
      · rw [if_neg (show ¬ (e == ((q : Nat) : Int)) = true from by simpa using h1)]
        by_cases h3 : e < (q : Nat) ∧ 0 ≤ e
        · rw [if_pos (show decide (e < ((q : Nat) : Int) ∧ 0 ≤ e) = true from decide_eq_true h3), if_pos (show decide (e < ((q + 1 : Nat) : Int) ∧ 0 ≤ e) = true from decide_eq_true (by omega)), List.length_cons, List.length_cons]
          omega
        · rw [if_neg (show ¬ decide (e < ((q : Nat) : Int) ∧ 0 ≤ e) = true from fun h => h3 (of_decide_eq_true h)), if_neg (show ¬ decide (e < ((q + 1 : Nat) : Int) ∧ 0 ≤ e) = true from fun h => by have := of_decide_eq_true h; omega)]
          exact iht
theorem alls_all {wv : Int} (h : 1 ≤ wv) (ts : List Ln) : alls wv ts 20 = ts.length := by
  rw [alls_count]
  rw [List.filter_eq_self.2]
  intro x _
  have := partI_bd (n := ((x.val : Nat) : Int)) h
  simp; omega
theorem alls_le {wv : Int} (_h : 1 ≤ wv) (ts : List Ln) (q : Nat) : alls wv ts q ≤ ts.length := by
  rw [alls_count]; exact List.length_filter_le _ _
theorem worst_le (wv : Int) (ts : List Ln) (q : Nat) : worst wv ts q ≤ ts.length := by
  rw [worst, maxN_le]
  intro x hx
  obtain ⟨p, _, rfl⟩ := List.mem_map.1 hx
  exact cntP_le _ _ _
theorem worst_all (wv : Int) (ts : List Ln) : worst wv ts 20 = mostP wv ts := rfl

theorem askTo_facts (ws : List Int) (ts : List Ln) : ∀ k, 0 < k → (askTo ws ts k).1 < k ∧ (askTo ws ts k).2 = mostP (ws[(askTo ws ts k).1]?.getD 0) ts ∧
    ∀ c, c < k → (askTo ws ts k).2 < mostP (ws[c]?.getD 0) ts ∨ ((askTo ws ts k).2 = mostP (ws[c]?.getD 0) ts ∧ (askTo ws ts k).1 ≤ c) := by
  intro k
  induction k with
  | zero => intro h; omega
  | succ k ih =>
    intro _
    by_cases h0 : k = 0
    · subst h0
      simp only [askTo, true_or, if_true]
      refine ⟨by omega, trivial, fun c hc => ?_⟩
      obtain rfl : c = 0 := by omega
      exact .inr ⟨rfl, Nat.le_refl _⟩
    · obtain ⟨i1, i2, i3⟩ := ih (by omega)
      by_cases hlt : mostP (ws[k]?.getD 0) ts < (askTo ws ts k).2
      · have e : askTo ws ts (k + 1) = (k, mostP (ws[k]?.getD 0) ts) := by simp [askTo, hlt]
        rw [e]
        refine ⟨by simp, rfl, fun c hc => ?_⟩
        by_cases hck : c = k
        · subst hck; exact .inr ⟨rfl, Nat.le_refl _⟩
        · left
          rcases i3 c (by omega) with h | ⟨h, _⟩
          · dsimp only; omega
          · dsimp only; omega
      · have e : askTo ws ts (k + 1) = askTo ws ts k := by simp [askTo, h0, hlt]
        rw [e]
        refine ⟨by omega, i2, fun c hc => ?_⟩
        by_cases hck : c = k
        · subst hck; omega
        · exact i3 c (by omega)
end Go.Proofs.Ytgbojgachgodgaa
