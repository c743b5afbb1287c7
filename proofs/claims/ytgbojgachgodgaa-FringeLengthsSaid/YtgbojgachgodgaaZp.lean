/-
  THE LENGTHS OF ALL TRUTHS, as a list in order, and as the fewest spans: plain facts.
-/
import Derived.Test.YtgbojgachgodgaaWr
import Derived.Test.YtgbojgachgodgaaWk
namespace Go.Proofs.Ytgbojgachgodgaa

theorem mem_lensTo {lo : Nat} {gs : List Rg} {k : Nat} {x : Ln} : x ∈ lensTo lo gs k ↔ lo ≤ x.val ∧ x.val < lo + k ∧ gs.all (rightB · ((x.val : Nat) : Int)) = true := by
  unfold lensTo
  rw [List.mem_filterMap]
  constructor
  · rintro ⟨i, hi, h⟩
    rw [List.mem_range] at hi
    split at h
    · rename_i hl
      split at h
      · rename_i ha
        cases h
        exact ⟨by simp, by simp; omega, ha⟩
      · cases h
    · cases h
  · rintro ⟨h1, h2, h3⟩
    have hx := x.isLt
    refine ⟨x.val - lo, List.mem_range.2 (by omega), ?_⟩
    have e : lo + (x.val - lo) = x.val := by omega
    rw [dif_pos (by omega)]
    simp only [e, h3, if_true]
theorem lensTo_sorted (lo : Nat) (gs : List Rg) (k : Nat) : (lensTo lo gs k).Pairwise (fun a b => a.val < b.val) := by
  induction k with
  | zero => simp [lensTo]
  | succ k ih =>
    by_cases hl : lo + k < 2001
    · cases ha : gs.all (rightB · ((lo + k : Nat) : Int)) with
      | true =>
        rw [lensTo_yes hl ha, List.pairwise_append]
        refine ⟨ih, List.pairwise_singleton _ _, fun a h b hb => ?_⟩
        rw [List.mem_singleton.1 hb]
        have := (mem_lensTo.1 h).2.1
        simpa using this
      | false => rw [lensTo_no hl ha]; exact ih
    · have e : lensTo lo gs (k + 1) = lensTo lo gs k := by
        simp only [lensTo, List.range_succ, List.filterMap_append, List.filterMap_cons, List.filterMap_nil, dif_neg hl, List.append_nil]
      rw [e]; exact ih
theorem mem_truths {F : Fr} (h : F.ok = true) {x : Ln} : x ∈ F.truths ↔ F.lo ≤ ((x.val : Nat) : Int) ∧ ((x.val : Nat) : Int) ≤ F.hi ∧ F.gs.all (rightB · ((x.val : Nat) : Int)) = true := by
  obtain ⟨l1, l2, l3, l4⟩ := F.len_in h
  unfold Fr.truths lens
  rw [mem_lensTo]
  constructor
  · rintro ⟨h1, h2, h3⟩; exact ⟨by omega, by omega, h3⟩
  · rintro ⟨h1, h2, h3⟩; exact ⟨by omega, by omega, h3⟩
theorem truths_sorted (F : Fr) : F.truths.Pairwise (fun a b => a.val < b.val) := lensTo_sorted _ _ _

/-- The numbers of a span. -/
def spanL (s : Sp) : List Int := (List.range (s.2 + 1 - s.1).toNat).map fun (i : Nat) => s.1 + i
theorem mem_spanL {s : Sp} {n : Int} : n ∈ spanL s ↔ s.1 ≤ n ∧ n ≤ s.2 := by
  unfold spanL
  rw [List.mem_map]
  constructor
  · rintro ⟨i, hi, rfl⟩
    rw [List.mem_range] at hi
    omega
  · rintro ⟨h1, h2⟩
    exact ⟨(n - s.1).toNat, List.mem_range.2 (by omega), by omega⟩
theorem spanL_one (x : Int) : spanL (x, x) = [x] := by
  unfold spanL
  have e : (x + 1 - x).toNat = 1 := by omega
  simp [e]
theorem spanL_more {lo x : Int} (h : lo ≤ x) : spanL (lo, x) = spanL (lo, x - 1) ++ [x] := by
  unfold spanL
  have e : (x + 1 - lo).toNat = (x - 1 + 1 - lo).toNat + 1 := by omega
  simp only [e, List.range_succ, List.map_append, List.map_cons, List.map_nil]
  congr 2
  omega
/-- The numbers of spans. -/
def flat (l : List Sp) : List Int := l.flatMap spanL
theorem flat_append (l m : List Sp) : flat (l ++ m) = flat l ++ flat m := by simp [flat]
/-- Spans in order, none of which meets the next one. -/
def Apart (l : List Sp) : Prop := l.Pairwise (fun s t => s.2 + 1 < t.1) ∧ ∀ s ∈ l, s.1 ≤ s.2
theorem spansOf_facts (ts : List Ln) (hs : ts.Pairwise (fun a b => a.val < b.val)) : flat (spansOf ts) = ts.map (fun x => ((x.val : Nat) : Int)) ∧ Apart (spansOf ts) ∧ ∀ l y, ts = l ++ [y] → ∃ l' lo, spansOf ts = l' ++ [(lo, ((y.val : Nat) : Int))] := by
  induction ts using snoc_ind with
  | h0 => exact ⟨rfl, ⟨List.Pairwise.nil, fun s h => absurd h List.not_mem_nil⟩, fun l y h => by simp at h⟩
  | h1 ts x ih =>
    rw [List.pairwise_append] at hs
    obtain ⟨h1, _, h3⟩ := hs
    obtain ⟨i1, ⟨i2, i3⟩, i4⟩ := ih h1
    rw [spansOf_snoc]
    rcases List.eq_nil_or_concat ts with rfl | ⟨l, y, rfl⟩
    · refine ⟨by simp [spansOf, spStep_nil, flat, spanL_one], ⟨?_, ?_⟩, fun l y h => ?_⟩
      · rw [show spansOf [] = [] from rfl, spStep_nil]; exact List.pairwise_singleton _ _
      · rw [show spansOf [] = [] from rfl, spStep_nil]; intro s h; rw [List.mem_singleton.1 h]; exact Int.le_refl _
      · rw [show spansOf [] = [] from rfl, spStep_nil]
        have : y = x := by simpa using (congrArg List.getLast? h).symm
        subst this
        exact ⟨[], _, rfl⟩
    · rw [List.concat_eq_append] at *
      obtain ⟨l', lo, e⟩ := i4 l y rfl
      have hyx := h3 y (by simp) x (by simp)
      rw [e] at i1 i2 i3 ⊢
      rw [List.pairwise_append] at i2
      obtain ⟨j1, _, j3⟩ := i2
      have hly := i3 (lo, ((y.val : Nat) : Int)) (by simp)
      dsimp only at hly
      by_cases hx : ((y.val : Nat) : Int) + 1 = ((x.val : Nat) : Int)
      · rw [spStep_set hx]
        refine ⟨?_, ⟨?_, ?_⟩, fun m z h => ?_⟩
        · have f1 : flat [(lo, ((x.val : Nat) : Int))] = flat [(lo, ((y.val : Nat) : Int))] ++ [((x.val : Nat) : Int)] := by
            simp only [flat, List.flatMap_cons, List.flatMap_nil, List.append_nil]
            rw [spanL_more (x := ((x.val : Nat) : Int)) (by omega), show ((x.val : Nat) : Int) - 1 = ((y.val : Nat) : Int) by omega]
          rw [flat_append, f1, ← List.append_assoc, ← flat_append, i1, List.map_append (l₁ := l ++ [y])]
          rfl
        · rw [List.pairwise_append]
          exact ⟨j1, List.pairwise_singleton _ _, fun a ha b hb => by
            rw [List.mem_singleton.1 hb]
            exact j3 a ha (lo, ((y.val : Nat) : Int)) (List.mem_singleton.2 rfl)⟩
        · intro s hs
          rcases List.mem_append.1 hs with h | h
          · exact i3 s (by simp [h])
          · rw [List.mem_singleton.1 h]; show lo ≤ ((x.val : Nat) : Int); omega
        · have : z = x := by simpa using (congrArg List.getLast? h).symm
          subst this
          exact ⟨l', lo, rfl⟩
      · rw [spStep_new hx]
        refine ⟨?_, ⟨?_, ?_⟩, fun m z h => ?_⟩
        · rw [List.map_append, ← i1, flat_append (l' ++ _)]
          simp [flat, spanL_one]
        · rw [List.pairwise_append]
          refine ⟨by rw [List.pairwise_append]; exact ⟨j1, List.pairwise_singleton _ _, j3⟩, List.pairwise_singleton _ _, fun a ha b hb => ?_⟩
          rw [List.mem_singleton.1 hb]
          rcases List.mem_append.1 ha with h | h
          · have := j3 a h _ (List.mem_singleton.2 rfl)
            dsimp only at this ⊢
            omega
          · rw [List.mem_singleton.1 h]; dsimp only; omega
        · intro s hs
          rcases List.mem_append.1 hs with h | h
          · exact i3 s h
          · rw [List.mem_singleton.1 h]; exact Int.le_refl _
        · have : z = x := by simpa using (congrArg List.getLast? h).symm
          subst this
          exact ⟨_, _, rfl⟩
end Go.Proofs.Ytgbojgachgodgaa
