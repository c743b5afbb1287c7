/-
  LAW: PairLongest: numbers.
-/
import Derived.Test.YtmiobcnccbfknaaHF5
namespace Go.Proofs.Ytmiobcnccbfknaa
open Go.RowKit Go.Proofs.Try


theorem truth_bd {p : Pr} (h : p.Fine) {c : Int × Int} {x : Nat → Int} (hx : p.n.Tr c x) {i : Nat} (hi : i < 5) : -20 ≤ x i ∧ x i ≤ 20 := by
  have := hx.blk i hi
  have := h.ok.bl i hi
  omega
theorem truth_out {p : Pr} {c : Int × Int} {x : Nat → Int} (hx : p.n.Tr c x) {i : Nat} (hi : i < 5) (ho : ¬ i < p.bs.length) : x i = -20 := by
  have h1 := hx.blk i hi
  have h2 : p.n.blk i = (-20, -20) := blk_out (p := p.n) ho
  rw [h2] at h1
  dsimp only at h1
  omega
theorem longA_lt (p : Pr) (h : p.Fine) : p.n.longA.1 < 2 ^ p.bs.length ∧ p.n.longA.2 < 2 ^ p.bs.length := by
  have th : ∀ so, thoseL p.bs.length so < 2 ^ p.bs.length := fun so => Nat.lt_pow_two_of_testBit _ fun i hi => by
    rw [thoseL_bit]
    simp
    omega
  have key : ∀ (l : List Gp) (s : Nat × Nat), s.1 < 2 ^ p.bs.length ∧ s.2 < 2 ^ p.bs.length → (longS p.bs.length s l).1 < 2 ^ p.bs.length ∧ (longS p.bs.length s l).2 < 2 ^ p.bs.length := by
    intro l
    induction l with
    | nil => exact fun s h => h
    | cons g l ih => exact fun s hs => ih _ ⟨Nat.lt_of_le_of_lt Nat.and_le_left hs.1, Nat.or_lt_two_pow hs.2 (th _)⟩
  have := Nat.one_le_two_pow (n := p.bs.length)
  exact key _ _ ⟨by show 2 ^ p.bs.length - 1 < 2 ^ p.bs.length; omega, by show 0 < 2 ^ p.bs.length; omega⟩
section
variable {p : Pr} (h : p.Fine) (hn : p.n.known.isEmpty = false)
include h hn
theorem all_long {i : Nat} (hi : i < p.bs.length) : p.n.longA.1.testBit i = true ↔ ∀ k, k < p.bs.length → 0 ≤ (p.n.differA i k).1 := by
  have h5 := h.b5
  rw [Prn.surely_all h.ok (i := i) hi h5]
  constructor
  · intro hs k hk
    obtain ⟨_, ⟨c, hc, x, hx, e⟩, _⟩ := Prn.differA_is h.ok (ne_nil hn) (a := i) (b := k) (by omega) (by omega)
    have := hs c hc x hx k (by omega)
    omega
  · intro hs c hc x hx o ho
    by_cases hk : o < p.bs.length
    · obtain ⟨d, _, _⟩ := Prn.differA_is h.ok (ne_nil hn) (a := i) (b := o) (by omega) (by omega)
      have := d c hc x hx
      have := hs o hk
      omega
    · have := truth_out hx ho hk
      have := truth_bd h hx (i := i) (by omega)
      omega
omit hn in
theorem some_long {i : Nat} (hi : i < p.bs.length) : p.n.longA.2.testBit i = true ↔ p.n.some_ fun _ x => ∀ o, o < 5 → x o ≤ x i := Prn.perhaps_all h.ok hi h.b5
theorem can_long {i : Nat} (hi : i < p.bs.length) (hb : p.n.longA.2.testBit i = true) : ∀ k, k < p.bs.length → 0 ≤ (p.n.differA i k).2 := by
  have h5 := h.b5
  intro k hk
  obtain ⟨c, hc, x, hx, hl⟩ := (some_long h hi).1 hb
  obtain ⟨d, _, _⟩ := Prn.differA_is h.ok (ne_nil hn) (a := i) (b := k) (by omega) (by omega)
  have := d c hc x hx
  have := hl k (by omega)
  omega
theorem both_long {i k : Nat} (hi : i < p.bs.length) (hk : k < p.bs.length) (h1 : p.n.longA.1.testBit i = true) (h2 : p.n.longA.2.testBit k = true) : (p.n.differA i k).1 ≤ 0 ∧ 0 ≤ (p.n.differA i k).2 := by
  have h5 := h.b5
  obtain ⟨c, hc, x, hx, hl⟩ := (some_long h hk).1 h2
  obtain ⟨d, _, _⟩ := Prn.differA_is h.ok (ne_nil hn) (a := i) (b := k) (by omega) (by omega)
  have q := d c hc x hx
  have q1 := hl i (by omega)
  have q2 := (Prn.surely_all h.ok (i := i) hi h5).1 h1 c hc x hx k (by omega)
  omega
theorem sure_perhaps {i : Nat} (hi : i < p.bs.length) (h1 : p.n.longA.1.testBit i = true) : p.n.longA.2.testBit i = true := by
  obtain ⟨c, hc, x, hx, _⟩ := (known_some h.ok).1 hn
  exact (some_long h hi).2 ⟨c, hc, x, hx, (Prn.surely_all h.ok (i := i) hi h.b5).1 h1 c hc x hx⟩
theorem perhaps_pos : p.n.longA.2 ≠ 0 := by
  obtain ⟨c, hc, x, hx, _⟩ := (known_some h.ok).1 hn
  have h5 := h.b5
  have h1 := h.b1
  -- the longest of the first m
  have mx : ∀ m, 0 < m → m ≤ p.bs.length → ∃ i, i < m ∧ ∀ o, o < m → x o ≤ x i := by
    intro m
    induction m with
    | zero => intro h; omega
    | succ m ih =>
      intro _ hm
      by_cases h0 : m = 0
      · subst h0
        exact ⟨0, by omega, fun o ho => by rw [show o = 0 by omega]; exact Int.le_refl _⟩
      · obtain ⟨i, hi, hl⟩ := ih (by omega) (by omega)
        by_cases hlt : x i ≤ x m
        · refine ⟨m, by omega, fun o ho => ?_⟩
          by_cases e : o = m
          · subst e
            exact Int.le_refl _
          · have := hl o (by omega)
            omega
        · refine ⟨i, by omega, fun o ho => ?_⟩
          by_cases e : o = m
          · subst e
            omega
          · exact hl o (by omega)
  obtain ⟨i, hi, hl⟩ := mx p.bs.length (by omega) (Nat.le_refl _)
  have hb : p.n.longA.2.testBit i = true := (some_long h hi).2 ⟨c, hc, x, hx, fun o ho => by
    by_cases hk : o < p.bs.length
    · exact hl o hk
    · have := truth_out hx ho hk
      have := truth_bd h hx (i := i) (by omega)
      omega⟩
  intro e
  rw [e] at hb
  simp at hb
theorem sure_sub : p.n.longA.1 ^^^ (p.n.longA.1 &&& p.n.longA.2) = 0 := by
  apply Nat.eq_of_testBit_eq
  intro i
  rw [Nat.testBit_xor, Nat.testBit_and, Nat.zero_testBit]
  by_cases hi : i < p.bs.length
  · cases hs : p.n.longA.1.testBit i with
    | false => rfl
    | true => rw [sure_perhaps h hn hi hs]; rfl
  · have h1 : p.n.longA.1.testBit i = false := Nat.testBit_lt_two_pow (Nat.lt_of_lt_of_le (longA_lt p h).1 (Nat.pow_le_pow_right (by omega) (by omega)))
    rw [h1]
    rfl
end
theorem shr_zero {x n : Nat} (h : x < 2 ^ n) : x >>> n = 0 := by
  rw [Nat.shiftRight_eq_div_pow]
  exact Nat.div_eq_of_lt h
/-- Have the first k blocks been found to be no longer, or to be perhaps no longer? -/
def sureB (p : Pr) (i k : Nat) : Bool := (List.range k).all fun q => decide (0 ≤ (p.n.differA i q).1)
def canB (p : Pr) (i k : Nat) : Bool := (List.range k).all fun q => decide (0 ≤ (p.n.differA i q).2)
theorem sureB_next (p : Pr) (i k : Nat) : sureB p i (k + 1) = (sureB p i k && decide (0 ≤ (p.n.differA i k).1)) := by
  unfold sureB
  rw [List.range_succ, List.all_append]
  simp
theorem canB_next (p : Pr) (i k : Nat) : canB p i (k + 1) = (canB p i k && decide (0 ≤ (p.n.differA i k).2)) := by
  unfold canB
  rw [List.range_succ, List.all_append]
  simp
theorem sureB_is {p : Pr} (h : p.Fine) (hn : p.n.known.isEmpty = false) {i : Nat} (hi : i < p.bs.length) : sureB p i p.bs.length = p.n.longA.1.testBit i := by
  cases hb : p.n.longA.1.testBit i with
  | true =>
    unfold sureB
    rw [List.all_eq_true]
    intro q hq
    exact decide_eq_true ((all_long h hn hi).1 hb q (List.mem_range.1 hq))
  | false =>
    cases hs : sureB p i p.bs.length with
    | false => rfl
    | true =>
      unfold sureB at hs
      rw [List.all_eq_true] at hs
      have := (all_long h hn hi).2 fun k hk => of_decide_eq_true (hs k (List.mem_range.2 hk))
      rw [this] at hb
      cases hb
theorem canB_is {p : Pr} (h : p.Fine) (hn : p.n.known.isEmpty = false) {i : Nat} (hi : i < p.bs.length) (hb : p.n.longA.2.testBit i = true) : canB p i p.bs.length = true := by
  unfold canB
  rw [List.all_eq_true]
  intro q hq
  exact decide_eq_true (can_long h hn hi hb q (List.mem_range.1 hq))
-- ---- the two that are widest
def Lex (s t : Nat × Nat) : Prop := s.1 < t.1 ∨ s.1 = t.1 ∧ s.2 < t.2
theorem twos_mem {n : Nat} {t : Nat × Nat} : t ∈ twosL n ↔ t.1 < t.2 ∧ t.2 < n := by
  unfold twosL
  simp only [List.mem_flatMap, List.mem_range, List.mem_map, List.mem_filter, decide_eq_true_eq]
  constructor
  · rintro ⟨a, ha, b, ⟨hb, hab⟩, rfl⟩
    exact ⟨hab, hb⟩
  · intro ht
    exact ⟨t.1, by omega, t.2, ⟨ht.2, ht.1⟩, rfl⟩
theorem twos_sorted (n : Nat) : (twosL n).Pairwise Lex := by
  unfold twosL
  rw [List.pairwise_flatMap]
  refine ⟨fun a _ => ?_, ?_⟩
  · rw [List.pairwise_map]
    exact (List.Pairwise.filter _ List.pairwise_lt_range).imp fun h => .inr ⟨rfl, h⟩
  · refine List.pairwise_lt_range.imp fun {a b} hab => ?_
    intro x hx y hy
    obtain ⟨_, _, rfl⟩ := List.mem_map.1 hx
    obtain ⟨_, _, rfl⟩ := List.mem_map.1 hy
    exact .inl hab
theorem far_all {p : Pr} (h : p.Fine) (hn : p.n.known.isEmpty = false) (h2 : 2 ≤ p.bs.length) : (p.n.farA.1.1 < p.n.farA.1.2 ∧ p.n.farA.1.2 < p.bs.length) ∧ p.n.farA.2 = p.n.wideA p.n.farA.1 ∧ ∀ c d, c < d → d < p.bs.length → p.n.wideA (c, d) < p.n.farA.2 ∨ p.n.wideA (c, d) = p.n.farA.2 ∧ (p.n.farA.1.1 < c ∨ c = p.n.farA.1.1 ∧ p.n.farA.1.2 ≤ d) := by
  have h5 := h.b5
  have hw : ∀ t ∈ twosL p.bs.length, 0 ≤ p.n.wideA t := by
    intro t ht
    have := twos_mem.1 ht
    have := (differ_bd2 h (a := t.1) (b := t.2) (by omega) (by omega) hn).1
    unfold Prn.wideA
    omega
  obtain ⟨m1, m2, m3⟩ := farS_is (wide := p.n.wideA) (twosL p.bs.length) ((0, 0), -1)
  have e : p.n.farA = farS p.n.wideA ((0, 0), -1) (twosL p.bs.length) := rfl
  rw [← e] at m1 m2 m3
  rcases m3 with m3 | ⟨as_, t, bs, hl, m3, m4, m5⟩
  · have := m2 (0, 1) (twos_mem.2 ⟨by show 0 < 1; omega, by show 1 < _; omega⟩)
    have := hw (0, 1) (twos_mem.2 ⟨by show 0 < 1; omega, by show 1 < _; omega⟩)
    rw [m3] at *
    dsimp only at *
    omega
  · have ht := twos_mem.1 (show t ∈ twosL p.bs.length by rw [hl]; simp)
    rw [m3]
    refine ⟨ht, rfl, fun c d hc hd => ?_⟩
    have hcd : (c, d) ∈ twosL p.bs.length := twos_mem.2 ⟨hc, hd⟩
    have hle := m2 (c, d) hcd
    rw [m3] at hle
    dsimp only at hle
    rcases Int.lt_or_eq_of_le hle with h6 | h6
    · exact .inl h6
    · refine .inr ⟨h6, ?_⟩
      have hs := twos_sorted p.bs.length
      rw [hl] at hcd hs
      rcases List.mem_append.1 hcd with h7 | h7
      · have := m5 _ h7
        omega
      · rcases List.mem_cons.1 h7 with h7 | h7
        · rw [← h7]
          dsimp only
          omega
        · have := (List.pairwise_cons.1 (List.pairwise_append.1 hs).2.1).1 _ h7
          unfold Lex at this
          dsimp only at this ⊢
          omega
end Go.Proofs.Ytmiobcnccbfknaa
