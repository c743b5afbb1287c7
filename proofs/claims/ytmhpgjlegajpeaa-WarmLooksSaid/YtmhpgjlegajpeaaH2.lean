/-
  WarmClash, its numbers: the sets in their order; the fewest readings that clash; the sets as the machine reckons them.
-/
import Derived.Test.YtmhpgjlegajpeaaH1
namespace Go.Proofs.Ytmhpgjlegajpeaa
open Go.RowKit Go.Shelf

/-- A set is not behind another one: it has fewer readings, or as many and is no greater. -/
def NoLater (s y : Nat) : Prop := popW s < popW y ∨ (popW s = popW y ∧ s ≤ y)
theorem few_order : ∀ n, n < 6 → (fewL n (n + 1)).Pairwise (fun a b => popW a < popW b ∨ (popW a = popW b ∧ a < b)) := by decide +kernel
theorem few_mem : ∀ n, n < 6 → ∀ t, t < 2 ^ n → t ∈ fewL n (n + 1) := by decide +kernel
theorem few_lt : ∀ n, n < 6 → ∀ t ∈ fewL n (n + 1), t < 2 ^ n := by decide +kernel
theorem find_least {R : Nat → Nat → Prop} {p : Nat → Bool} {l : List Nat} {s : Nat} (hp : l.Pairwise R) (h : l.find? p = some s) : s ∈ l ∧ p s = true ∧ ∀ t ∈ l, p t = true → t = s ∨ R s t := by
  obtain ⟨h1, us, bs, rfl, h2⟩ := List.find?_eq_some_iff_append.1 h
  refine ⟨by simp, h1, fun t ht hpt => ?_⟩
  rcases List.mem_append.1 ht with ht | ht
  · have := h2 t ht
    rw [hpt] at this
    cases this
  · rcases List.mem_cons.1 ht with ht | ht
    · exact .inl ht
    · exact .inr ((List.pairwise_cons.1 (List.pairwise_append.1 hp).2.1).1 t ht)
theorem okAll_sub {m : Int} {rs rs' : List Wr} {p : Pr} (h : okAll m rs p = true) (hs : ∀ g ∈ rs', g ∈ rs) : okAll m rs' p = true :=
  List.all_eq_true.2 fun r hr => List.all_eq_true.1 h r (hs r hr)
theorem clB_mono {B : Wm} (ht : B.truths.isEmpty = false) (s : Nat) : B.clB s = false := by
  cases h : B.clB s with
  | false => rfl
  | true =>
    have hT : B.truths ≠ [] := fun e => by rw [e] at ht; cases ht
    obtain ⟨p, hp⟩ := List.exists_mem_of_ne_nil _ hT
    obtain ⟨p1, p2⟩ := List.mem_filter.1 hp
    have h2 : p ∈ B.leftBy (wo B.rs s) := List.mem_filter.2 ⟨p1, okAll_sub p2 (wo_sub B.rs s)⟩
    rw [Wm.clB, List.isEmpty_iff] at h
    rw [h] at h2
    cases h2
theorem few_none {B : Wm} (ht : B.truths.isEmpty = false) : B.few = none := List.find?_eq_none.2 (fun y _ => by rw [clB_mono ht y]; simp)
theorem has_full : ∀ n, n < 6 → ∀ i, i < n → hasB (2 ^ n - 1) i = true := by decide +kernel
theorem has_zero : ∀ i, i < 6 → hasB 0 i = false := by decide +kernel
theorem wo_full (rs : List Wr) (h : rs.length < 6) : wo rs (2 ^ rs.length - 1) = rs := by
  rw [← ptL_wo, ptL, List.filter_eq_self.2 (fun i hi => has_full _ h i (List.mem_range.1 hi))]
  apply List.ext_getElem
  · simp
  · intro i h1 h2
    simp [List.getElem?_eq_getElem h2]
theorem wo_zero (rs : List Wr) (h : rs.length < 6) : wo rs 0 = [] := by
  rw [← ptL_wo, ptL, List.filter_eq_nil_iff.2 (fun i hi => by rw [has_zero i (by have := List.mem_range.1 hi; omega)]; simp)]
  rfl
theorem clB_zero {B : Wm} (hok : B.ok = true) : B.clB 0 = false := by
  have hl := (vWrs_at (Wm.ok_reads hok)).1
  have hL := Wm.ok_lim hok
  obtain ⟨m1, m2, l1, l2, l3, l4, c1, c2, c3, c4⟩ := hL
  have hall : (⟨(B.llo, B.clo), by constructor <;> omega⟩ : Pr) ∈ B.all := (Wm.mem_all (Wm.ok_lim hok)).2 (by dsimp only; omega)
  have h2 : (⟨(B.llo, B.clo), by constructor <;> omega⟩ : Pr) ∈ B.leftBy (wo B.rs 0) := List.mem_filter.2 ⟨hall, by rw [wo_zero B.rs (by omega)]; rfl⟩
  cases h : B.clB 0 with
  | false => rfl
  | true =>
    rw [Wm.clB, List.isEmpty_iff] at h
    rw [h] at h2
    cases h2
theorem bit_out : ∀ s : Nat, s < 32 → ∀ i : Nat, i < 5 → hasB s i = true → popW (s - 2 ^ i) < popW s ∧ bits BinOp.andNot IntKind.i64 (s : Int) (wrap64 (2 ^ i)) = ((s - 2 ^ i : Nat) : Int) := by decide +kernel
theorem pow_le5 (n : Nat) (h : n ≤ 5) : 2 ^ n ≤ 32 := by have := Nat.pow_le_pow_right (n := 2) (by omega) h; simpa using this
theorem shl_full (n : Nat) (h : n ≤ 5) : wrap64 (wrap64 (2 ^ n) - 1) = ((2 ^ n - 1 : Nat) : Int) := by
  have hp := Nat.pow_pos (a := 2) (n := n) (by omega)
  have h64 := pow_le5 n h
  rw [show ((2 : Int) ^ n) = ((2 ^ n : Nat) : Int) by simp]
  have e : ∀ m : Int, 0 ≤ m → m ≤ 64 → wrap64 m = m := fun m h0 h1 => by unfold wrap64; omega
  rw [e ((2 ^ n : Nat) : Int) (by omega) (by omega), e _ (by omega) (by omega), Int.natCast_sub hp]
  rfl
theorem wraps62 (n : Int) (h0 : 0 ≤ n) (h1 : n < 2 ^ 62) : IntKind.i64.wrap n = n := by
  have h62 : (2 : Int) ^ 62 = 4611686018427387904 := by decide
  rw [IntKind.wrap_i64]
  omega
theorem and_full (n : Nat) (h : n ≤ 5) (x : Int) (h0 : 0 ≤ x) (h1 : x ≤ 255) : ∃ own : Nat, bits .and .i64 x ((2 ^ n - 1 : Nat) : Int) = (own : Int) ∧ own < 2 ^ n := by
  have hp := Nat.pow_pos (a := 2) (n := n) (by omega)
  have h62 : (2 : Int) ^ 62 = 4611686018427387904 := by decide
  have hm := bits_mask .i64 62 (by decide) wraps62 n (by omega) x h0 (by omega)
  have e : ((2 ^ n - 1 : Nat) : Int) = 2 ^ n - 1 := by
    rw [Int.natCast_sub hp]; simp
  rw [e, hm]
  have e2 : ((2 : Int) ^ n) = ((2 ^ n : Nat) : Int) := by simp
  rw [e2]
  exact ⟨(x % ((2 ^ n : Nat) : Int)).toNat, (Int.toNat_of_nonneg (Int.emod_nonneg _ (by omega))).symm, by have := Int.emod_lt_of_pos x (show (0 : Int) < ((2 ^ n : Nat) : Int) by omega); have := Int.emod_nonneg x (show ((2 ^ n : Nat) : Int) ≠ 0 by omega); omega⟩
/-- What WarmClash reckons where something clashes. -/
theorem clash_facts {B : Wm} (hok : B.ok = true) (ht : B.truths.isEmpty = true) : ∃ S T : Nat, B.clashA = ((S : Int), 0) ∧ 2 ^ B.rs.length - 1 = T ∧ T < 32 ∧ 1 ≤ S ∧ S ≤ T ∧ B.clB S = true ∧
    (∀ i, i < B.rs.length → hasB S i = true → B.clB (S - 2 ^ i) = false ∧ S - 2 ^ i ≤ T) ∧ ∀ y, y ≤ T → B.clB y = true → NoLater S y := by
  have hl := (vWrs_at (Wm.ok_reads hok)).1
  have hp := Nat.pow_pos (a := 2) (n := B.rs.length) (by omega)
  have h32 := pow_le5 _ hl
  have hfull : B.clB (2 ^ B.rs.length - 1) = true := by
    rw [Wm.clB, wo_full _ (by omega)]; exact ht
  cases hf : B.few with
  | none =>
    have := List.find?_eq_none.1 hf (2 ^ B.rs.length - 1) (few_mem _ (by omega) _ (by omega))
    rw [hfull] at this
    simp at this
  | some S =>
    obtain ⟨h1, h2, h3⟩ := find_least (few_order _ (by omega)) hf
    have hS := few_lt _ (by omega) S h1
    have hN : ∀ y, y ≤ 2 ^ B.rs.length - 1 → B.clB y = true → NoLater S y := by
      intro y hy hc
      rcases h3 y (few_mem _ (by omega) y (by omega)) hc with e | h
      · subst e; exact .inr ⟨rfl, Nat.le_refl _⟩
      · rcases h with h | ⟨h, h'⟩
        · exact .inl h
        · exact .inr ⟨h, by omega⟩
    refine ⟨S, _, ?_, rfl, by omega, ?_, by omega, h2, ?_, hN⟩
    · unfold Wm.clashA
      rw [if_pos hok, hf]
    · rcases Nat.eq_zero_or_pos S with e | h
      · rw [e, clB_zero hok] at h2; cases h2
      · exact h
    · intro i hi hb
      have hb2 := (bit_out S (by omega) i (by omega) hb).1
      have hsub : S - 2 ^ i ≤ S := Nat.sub_le _ _
      generalize S - 2 ^ i = Z at hb2 hsub
      refine ⟨?_, by omega⟩
      cases hc : B.clB Z with
      | false => rfl
      | true =>
        rcases hN Z (by omega) hc with h | h
        · omega
        · omega
theorem cn_ok {B : Wm} (hok : B.ok = true) : B.countA = ((B.truths.length : Int), 0) := by
  unfold Wm.countA
  rw [if_pos hok]
theorem clash_nothing {B : Wm} (hok : B.ok = true) (ht : B.truths.isEmpty = false) : B.clashA = (0, 4) := by
  unfold Wm.clashA
  rw [if_pos hok, few_none ht]
end Go.Proofs.Ytmhpgjlegajpeaa
