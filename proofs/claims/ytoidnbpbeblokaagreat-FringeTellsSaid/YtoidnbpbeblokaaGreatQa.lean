/-
  FringeTells, its numbers: the document's own Near, Lengths, Whole, Parts and Period, one step after the other.
-/
import Derived.Test.YtoidnbpbeblokaaGreatPc
import Derived.Test.YtoidnbpbeblokaaGreatZm
namespace Go.Proofs.YtoidnbpbeblokaaGreat
open Go.RowKit Go.Shelf

theorem ints_sorted (F : Fr) : (intsOf F.truths).Pairwise (· < ·) := by
  rw [intsOf, List.pairwise_map]
  exact (truths_sorted F).imp fun h => by omega
/-- The nearest of the first k lengths, as the document finds it. -/
def nrStep (wish b n : Int) : Int := if dist n wish < dist b wish then n else b
def nrTo (wish : Int) (L : List Int) (k : Nat) : Int := (L.take k).foldl (nrStep wish) (L[0]?.getD 0)
theorem nrTo_zero (wish : Int) (L : List Int) : nrTo wish L 0 = L[0]?.getD 0 := by simp [nrTo]
theorem nrTo_succ {wish : Int} {L : List Int} {k : Nat} (hk : k < L.length) : nrTo wish L (k + 1) = nrStep wish (nrTo wish L k) (L[k]?.getD 0) := by
  rw [nrTo, List.take_succ_eq_append_getElem hk, List.foldl_append, List.getElem?_eq_getElem hk]
  rfl
theorem nrTo_facts (wish : Int) (L : List Int) (hs : L.Pairwise (· < ·)) (hne : 0 < L.length) : ∀ k, k ≤ L.length →
    (∃ j, j < L.length ∧ (j < k ∨ j = 0) ∧ nrTo wish L k = L[j]?.getD 0) ∧ ∀ i, i < k → dist (nrTo wish L k) wish ≤ dist (L[i]?.getD 0) wish ∧ (dist (nrTo wish L k) wish = dist (L[i]?.getD 0) wish → nrTo wish L k ≤ L[i]?.getD 0) := by
  have hlt : ∀ i j, i < j → j < L.length → L[i]?.getD 0 < L[j]?.getD 0 := fun i j h1 h2 => by
    rw [List.getElem?_eq_getElem h2, List.getElem?_eq_getElem (by omega : i < L.length)]
    exact List.pairwise_iff_getElem.1 hs i j (by omega) h2 h1
  intro k
  induction k with
  | zero => intro _; exact ⟨⟨0, hne, .inr rfl, nrTo_zero _ _⟩, fun i h => absurd h (by omega)⟩
  | succ k ih =>
    intro hk
    obtain ⟨⟨j, hj, hjk, he⟩, h2⟩ := ih (by omega)
    rw [nrTo_succ (by omega), nrStep]
    by_cases hd : dist (L[k]?.getD 0) wish < dist (nrTo wish L k) wish
    · rw [if_pos hd]
      refine ⟨⟨k, by omega, .inl (by omega), rfl⟩, fun i hi => ?_⟩
      rcases Nat.lt_or_ge i k with h | h
      · have := h2 i h; exact ⟨by omega, fun e => by omega⟩
      · obtain rfl : i = k := by omega
        exact ⟨Int.le_refl _, fun _ => Int.le_refl _⟩
    · rw [if_neg hd]
      refine ⟨⟨j, hj, by omega, he⟩, fun i hi => ?_⟩
      rcases Nat.lt_or_ge i k with h | h
      · exact h2 i h
      · obtain rfl : i = k := by omega
        refine ⟨by omega, fun _ => ?_⟩
        rw [he]
        rcases Nat.lt_or_ge j i with h' | h'
        · have := hlt j i h' (by omega); omega
        · obtain rfl : j = i := by omega
          exact Int.le_refl _
theorem nrTo_mem (wish : Int) (L : List Int) (hs : L.Pairwise (· < ·)) (hne : 0 < L.length) (k : Nat) (hk : k ≤ L.length) : ∃ j, j < L.length ∧ nrTo wish L k = L[j]?.getD 0 := by
  obtain ⟨⟨j, h1, _, h2⟩, _⟩ := nrTo_facts wish L hs hne k hk
  exact ⟨j, h1, h2⟩
theorem intsOf_len (ts : List Ln) : (intsOf ts).length = ts.length := by simp [intsOf]
theorem intsOf_at {ts : List Ln} {i : Nat} (h : i < ts.length) : (intsOf ts)[i]?.getD 0 = ((ts[i].val : Nat) : Int) := by
  simp [intsOf, List.getElem?_eq_getElem h]
theorem intsOf_bd {ts : List Ln} {i : Nat} (h : i < (intsOf ts).length) : 0 ≤ (intsOf ts)[i]?.getD 0 ∧ (intsOf ts)[i]?.getD 0 ≤ 2000 := by
  rw [intsOf_len] at h
  rw [intsOf_at h]
  have := ts[i].isLt
  omega
theorem nrTo_near (F : Fr) (wish : Int) (hne : F.truths ≠ []) : nrTo wish (intsOf F.truths) (intsOf F.truths).length = near wish F.truths := by
  have hl : 0 < (intsOf F.truths).length := by rw [intsOf_len]; exact List.length_pos_iff.2 hne
  obtain ⟨⟨j, hj, _, he⟩, h2⟩ := nrTo_facts wish _ (ints_sorted F) hl _ (Nat.le_refl _)
  obtain ⟨⟨x, hx, hn⟩, h4⟩ := near_facts wish F.truths (truths_sorted F) hne
  have hj2 := hj
  rw [intsOf_len] at hj2
  rw [intsOf_at hj2] at he
  have a := h4 _ (List.getElem_mem hj2)
  rw [← he] at a
  obtain ⟨i, hi, hix⟩ := List.getElem_of_mem hx
  have b := h2 i (by rw [intsOf_len]; exact hi)
  rw [intsOf_at hi, hix, ← hn] at b
  have e : dist (near wish F.truths) wish = dist (nrTo wish (intsOf F.truths) (intsOf F.truths).length) wish := by omega
  have := a.2 e
  have := b.2 e.symm
  omega
/-- The spans of the first k lengths. -/
def spTo (L : List Int) (k : Nat) : List Sp := (L.take k).foldl spStep []
theorem spTo_succ {L : List Int} {k : Nat} (hk : k < L.length) : spTo L (k + 1) = spStep (spTo L k) (L[k]?.getD 0) := by
  rw [spTo, List.take_succ_eq_append_getElem hk, List.foldl_append, List.getElem?_eq_getElem hk]
  rfl
theorem spTo_len (L : List Int) : ∀ k, (spTo L k).length ≤ k := by
  intro k
  induction k with
  | zero => simp [spTo]
  | succ k ih =>
    rcases Nat.lt_or_ge k L.length with h | h
    · rw [spTo_succ h]; have := spStep_len (spTo L k) (L[k]?.getD 0); omega
    · have : spTo L (k + 1) = spTo L k := by simp [spTo, List.take_of_length_le h, List.take_of_length_le (by omega : L.length ≤ k + 1)]
      rw [this]; omega
theorem spTo_all (ts : List Ln) : spTo (intsOf ts) (intsOf ts).length = spansOf ts := by
  rw [spTo, List.take_length, intsOf, List.foldl_map]
  rfl
theorem spTo_last (L : List Int) (hb : ∀ i, i < L.length → 0 ≤ L[i]?.getD 0 ∧ L[i]?.getD 0 ≤ 2000) : ∀ k, k ≤ L.length → ∀ l lo hi, spTo L k = l ++ [(lo, hi)] → 0 ≤ hi ∧ hi ≤ 2000 := by
  intro k
  induction k with
  | zero => intro _ l lo hi h; simp [spTo] at h
  | succ k ih =>
    intro hk l lo hi h
    rw [spTo_succ (by omega)] at h
    have hx := hb k (by omega)
    obtain ⟨x, hxe⟩ : ∃ x, L[k]?.getD 0 = x := ⟨_, rfl⟩
    rw [hxe] at h hx
    rcases List.eq_nil_or_concat (spTo L k) with e | ⟨l', ⟨lo', hi'⟩, e⟩
    · rw [e, spStep_nil] at h
      have := List.append_inj_right' (s₁ := []) h rfl
      simp only [List.cons.injEq, Prod.mk.injEq, and_true] at this
      omega
    · rw [List.concat_eq_append] at e
      rw [e] at h
      by_cases hh : hi' + 1 = x
      · rw [spStep_set hh] at h
        have := List.append_inj_right' h rfl
        simp only [List.cons.injEq, Prod.mk.injEq, and_true] at this
        omega
      · rw [spStep_new hh] at h
        have := List.append_inj_right' h rfl
        simp only [List.cons.injEq, Prod.mk.injEq, and_true] at this
        omega
/-- The whole fringes of the first k lengths. -/
def cdTo (x : Int) (L : List Int) (k : Nat) : List Int := cdup ((L.take k).map (· / x))
theorem cdTo_succ {x : Int} {L : List Int} {k : Nat} (hk : k < L.length) : cdTo x L (k + 1) = cdStep (cdTo x L k) (L[k]?.getD 0 / x) := by
  simp only [cdTo, List.take_succ_eq_append_getElem hk, List.map_append, List.map_cons, List.map_nil, cdup_snoc, List.getElem?_eq_getElem hk, Option.getD_some]
theorem cdTo_len (x : Int) (L : List Int) (k : Nat) : (cdTo x L k).length ≤ k := by
  have := cdup_len ((L.take k).map (· / x))
  simp only [List.length_map, List.length_take] at this
  simp only [cdTo]
  omega
theorem cdTo_all (F : Fr) {x : Int} (hx : 1 ≤ x) : cdTo x (intsOf F.truths) (intsOf F.truths).length = whs x F.truths := by
  rw [cdTo, List.take_length, whs_eq hx _ (truths_sorted F), intsOf, List.map_map]
  rfl
theorem cdStep_new {l : List Int} {n : Int} (h : l.getLast? ≠ some n) : cdStep l n = l ++ [n] := by rw [cdStep, if_neg h]
theorem cdStep_old {l : List Int} {n : Int} (h : l.getLast? = some n) : cdStep l n = l := by rw [cdStep, if_pos h]
/-- The parts of the first k lengths. -/
def psTo (x : Int) (L : List Int) (k : Nat) : Nat := psOf x (L.take k)
theorem psTo_succ {x : Int} {L : List Int} {k : Nat} (hk : k < L.length) : psTo x L (k + 1) = psTo x L k ||| 2 ^ (20 * (L[k]?.getD 0 % x) / x).toNat := by
  simp only [psTo, List.take_succ_eq_append_getElem hk, psOf_snoc, List.getElem?_eq_getElem hk, Option.getD_some]
theorem psTo_all (F : Fr) (x : Int) : psTo x (intsOf F.truths) (intsOf F.truths).length = partSet (frs x F.truths) := by
  rw [psTo, List.take_length, parts_eq, intsOf]
theorem hasB_bit (s p : Nat) : hasB s p = s.testBit p := by
  rw [hasB, Nat.testBit_eq_decide_div_mod_eq, Nat.shiftRight_eq_div_pow, Bool.eq_iff_iff, beq_iff_eq, decide_eq_true_eq]
theorem or_has {s p : Nat} (h : hasB s p = true) : s ||| 2 ^ p = s := by
  rw [hasB_bit] at h
  apply Nat.eq_of_testBit_eq
  intro i
  rw [Nat.testBit_or, Nat.testBit_two_pow]
  by_cases e : p = i
  · subst e; simp [h]
  · simp [e]
theorem or_has_not {s p : Nat} (hs : s < 1048576) (hp : p < 20) (h : hasB s p = false) : s ||| 2 ^ p = s + 2 ^ p := by
  rw [hasB_bit] at h
  have h2 : 2 ^ p < 2 ^ 20 := Nat.pow_lt_pow_right (by omega) hp
  have e := BitVec.add_eq_or_of_and_eq_zero (BitVec.ofNat 22 s) (BitVec.ofNat 22 (2 ^ p)) (by
    apply BitVec.eq_of_toNat_eq
    rw [BitVec.toNat_and, BitVec.toNat_ofNat, BitVec.toNat_ofNat, Nat.mod_eq_of_lt (by omega), Nat.mod_eq_of_lt (by omega)]
    apply Nat.eq_of_testBit_eq
    intro i
    rw [Nat.testBit_and, Nat.testBit_two_pow]
    by_cases e : p = i
    · subst e; simp [h]
    · simp [e])
  have e2 := congrArg BitVec.toNat e
  rw [BitVec.toNat_add, BitVec.toNat_or, BitVec.toNat_ofNat, BitVec.toNat_ofNat, Nat.mod_eq_of_lt (a := s) (by omega), Nat.mod_eq_of_lt (a := 2 ^ p) (by omega), Nat.mod_eq_of_lt (by omega)] at e2
  exact e2.symm
theorem lcm_step {n x k : Nat} (h : x ∣ n * (k + 1)) (hno : ∀ j, j < k → ¬ x ∣ n * (j + 1)) (hn : 1 ≤ n) : n * (k + 1) = Nat.lcm n x := by
  obtain ⟨m, hm⟩ := Nat.dvd_lcm_left n x
  have h1 : Nat.lcm n x ∣ n * (k + 1) := Nat.lcm_dvd (Nat.dvd_mul_right _ _) h
  rw [hm] at h1 ⊢
  have h2 : m ∣ k + 1 := Nat.dvd_of_mul_dvd_mul_left (by omega) h1
  have h3 := Nat.le_of_dvd (by omega) h2
  have hx : x ∣ n * m := hm ▸ Nat.dvd_lcm_right n x
  rcases Nat.eq_zero_or_pos m with e | e
  · subst e
    obtain ⟨c, hc⟩ := h2
    omega
  rcases Nat.lt_or_ge (m - 1) k with h4 | h4
  · exact absurd (show x ∣ n * (m - 1 + 1) by rw [Nat.sub_add_cancel e]; exact hx) (hno _ h4)
  · rw [show k + 1 = m by omega]
theorem lcm_stop {n x k : Nat} (hx : 1 ≤ x) (hno : ∀ j, j < k → ¬ x ∣ n * (j + 1)) : k < x := by
  rcases Nat.lt_or_ge (x - 1) k with h | h
  · exact absurd (show x ∣ n * (x - 1 + 1) by rw [Nat.sub_add_cancel hx]; exact Nat.dvd_mul_left _ _) (hno _ h)
  · omega
end Go.Proofs.YtoidnbpbeblokaaGreat
