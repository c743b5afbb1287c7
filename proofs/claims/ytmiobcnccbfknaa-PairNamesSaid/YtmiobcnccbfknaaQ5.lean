/-
  PAIR: which blocks are longest, and which two are known least of one another.
-/
import Derived.Test.YtmiobcnccbfknaaQ4
namespace Go.Proofs.Ytmiobcnccbfknaa

/-- The set of the first n numbers of which something is so, number by number. -/
def thoseL (n : Nat) (so : Nat → Bool) : Nat := (List.range n).foldl (fun s i => if so i then s ||| 1 <<< i else s) 0
theorem those_go (so : Nat → Bool) : ∀ (l : List Nat) (s i : Nat), (l.foldl (fun s i => if so i then s ||| 1 <<< i else s) s).testBit i = (s.testBit i || (l.contains i && so i))
  | [], s, i => by simp
  | j :: l, s, i => by
    rw [List.foldl_cons, those_go so l, List.contains_cons]
    by_cases hj : so j = true
    · rw [if_pos hj, Nat.testBit_or, Nat.one_shiftLeft, Nat.testBit_two_pow]
      by_cases e : j = i
      · subst e
        simp [hj]
      · have e' : (i == j) = false := by simpa using fun h => e h.symm
        simp [e, e']
    · rw [if_neg hj]
      by_cases e : i = j
      · subst e
        simp [hj]
      · have e' : (i == j) = false := by simpa using e
        simp [e']
theorem thoseL_bit (n : Nat) (so : Nat → Bool) (i : Nat) : (thoseL n so).testBit i = (decide (i < n) && so i) := by
  unfold thoseL
  rw [those_go]
  have h : (List.range n).contains i = decide (i < n) := by
    rw [Bool.eq_iff_iff]
    simp
  rw [h]
  simp
/-- The blocks that are longest in each truth, and those that are in some: gathered from what is left with each comparator. -/
def longS (n : Nat) (s : Nat × Nat) (l : List Gp) : Nat × Nat :=
  l.foldl (fun s g => (s.1 &&& thoseL n (fun a => (List.range 5).all fun o => decide (g o a ≤ 0)), s.2 ||| thoseL n (fun a => (List.range 5).all fun o => decide (0 ≤ g a o)))) s
theorem longS_perm {n : Nat} {l l' : List Gp} (h : l.Perm l') : ∀ s, longS n s l = longS n s l' := by
  intro s
  refine h.foldl_eq' (fun a _ b _ s => ?_) s
  rw [Prod.mk.injEq]
  refine ⟨Nat.eq_of_testBit_eq fun i => ?_, Nat.eq_of_testBit_eq fun i => ?_⟩
  · simp only [Nat.testBit_and]
    rw [Bool.and_assoc, Bool.and_assoc, Bool.and_comm (Nat.testBit (thoseL n _) i)]
  · simp only [Nat.testBit_or]
    rw [Bool.or_assoc, Bool.or_assoc, Bool.or_comm (Nat.testBit (thoseL n _) i)]
theorem longS_bit {n : Nat} : ∀ (l : List Gp) (s : Nat × Nat) (i : Nat), i < n →
    ((longS n s l).1.testBit i = true ↔ s.1.testBit i = true ∧ ∀ g ∈ l, ∀ o, o < 5 → g o i ≤ 0) ∧ ((longS n s l).2.testBit i = true ↔ s.2.testBit i = true ∨ ∃ g ∈ l, ∀ o, o < 5 → 0 ≤ g i o)
  | [], s, i, _ => by simp [longS]
  | g :: l, s, i, hi => by
    obtain ⟨h1, h2⟩ := longS_bit l (s.1 &&& thoseL n (fun a => (List.range 5).all fun o => decide (g o a ≤ 0)), s.2 ||| thoseL n (fun a => (List.range 5).all fun o => decide (0 ≤ g a o))) i hi
    have e : longS n s (g :: l) = longS n (s.1 &&& thoseL n (fun a => (List.range 5).all fun o => decide (g o a ≤ 0)), s.2 ||| thoseL n (fun a => (List.range 5).all fun o => decide (0 ≤ g a o))) l := rfl
    have a1 : ((List.range 5).all fun o => decide (g o i ≤ 0)) = true ↔ ∀ o, o < 5 → g o i ≤ 0 := by
      rw [List.all_eq_true]
      exact ⟨fun h o ho => of_decide_eq_true (h o (List.mem_range.2 ho)), fun h o ho => decide_eq_true (h o (List.mem_range.1 ho))⟩
    have a2 : ((List.range 5).all fun o => decide (0 ≤ g i o)) = true ↔ ∀ o, o < 5 → 0 ≤ g i o := by
      rw [List.all_eq_true]
      exact ⟨fun h o ho => of_decide_eq_true (h o (List.mem_range.2 ho)), fun h o ho => decide_eq_true (h o (List.mem_range.1 ho))⟩
    rw [e, h1, h2]
    dsimp only
    rw [Nat.testBit_and, Nat.testBit_or, thoseL_bit, thoseL_bit, decide_eq_true hi, Bool.true_and, Bool.true_and, Bool.and_eq_true, Bool.or_eq_true, a1, a2]
    constructor
    · constructor
      · rintro ⟨⟨b1, b2⟩, b3⟩
        exact ⟨b1, fun q hq => by
          rcases List.mem_cons.1 hq with rfl | hq
          · exact b2
          · exact b3 q hq⟩
      · rintro ⟨b1, b2⟩
        exact ⟨⟨b1, b2 g List.mem_cons_self⟩, fun q hq => b2 q (List.mem_cons_of_mem _ hq)⟩
    · constructor
      · rintro ((b1 | b1) | ⟨q, hq, b1⟩)
        · exact .inl b1
        · exact .inr ⟨g, List.mem_cons_self, b1⟩
        · exact .inr ⟨q, List.mem_cons_of_mem _ hq, b1⟩
      · rintro (b1 | ⟨q, hq, b1⟩)
        · exact .inl (.inl b1)
        · rcases List.mem_cons.1 hq with rfl | hq
          · exact .inl (.inr b1)
          · exact .inr ⟨q, hq, b1⟩
/-- What is told of the longest blocks. -/
def Prn.longA (p : Prn) : Nat × Nat := longS p.bs.length (2 ^ p.bs.length - 1, 0) (p.known.map (·.2))
theorem Prn.surely_all {p : Prn} (hp : p.Ok) {i : Nat} (hi : i < p.bs.length) (h5 : p.bs.length ≤ 5) : p.longA.1.testBit i = true ↔ ∀ c ∈ p.comps, ∀ x, p.Tr c x → ∀ o, o < 5 → x o ≤ x i := by
  unfold Prn.longA
  rw [(longS_bit _ _ i hi).1, all_bits hi]
  constructor
  · rintro ⟨_, h⟩ c hc x hx o ho
    obtain ⟨g, hg⟩ := Option.isSome_iff_exists.1 ((Prn.left_is hp c).2 ⟨x, hx⟩)
    exact (Prn.surely_is hp hg (a := i) (by omega)).2 (h g (List.mem_map.2 ⟨(c, g), Prn.mem_known.2 ⟨hc, hg⟩, rfl⟩)) x hx o ho
  · intro h
    refine ⟨rfl, fun g hg => ?_⟩
    obtain ⟨k, hk, rfl⟩ := List.mem_map.1 hg
    obtain ⟨k1, k2⟩ := Prn.mem_known.1 hk
    exact (Prn.surely_is hp k2 (a := i) (by omega)).1 (h k.1 k1)
theorem Prn.perhaps_all {p : Prn} (hp : p.Ok) {i : Nat} (hi : i < p.bs.length) (h5 : p.bs.length ≤ 5) : p.longA.2.testBit i = true ↔ p.some_ fun _ x => ∀ o, o < 5 → x o ≤ x i := by
  unfold Prn.longA
  rw [(longS_bit _ _ i hi).2]
  constructor
  · rintro (h | ⟨g, hg, h⟩)
    · simp at h
    · obtain ⟨k, hk, rfl⟩ := List.mem_map.1 hg
      obtain ⟨k1, k2⟩ := Prn.mem_known.1 hk
      obtain ⟨x, h1, h2⟩ := (Prn.perhaps_is hp k2 (a := i) (by omega)).2 h
      exact ⟨k.1, k1, x, h1, h2⟩
  · rintro ⟨c, hc, x, hx, h⟩
    obtain ⟨g, hg⟩ := Option.isSome_iff_exists.1 ((Prn.left_is hp c).2 ⟨x, hx⟩)
    exact .inr ⟨g, List.mem_map.2 ⟨(c, g), Prn.mem_known.2 ⟨hc, hg⟩, rfl⟩, (Prn.perhaps_is hp hg (a := i) (by omega)).1 ⟨x, hx, h⟩⟩
/-- All pairs of n blocks in order, and the first of them that is widest. -/
def twosL (n : Nat) : List (Nat × Nat) := (List.range n).flatMap fun a => ((List.range n).filter fun b => decide (a < b)).map fun b => (a, b)
def farS (wide : Nat × Nat → Int) (s : (Nat × Nat) × Int) (l : List (Nat × Nat)) : (Nat × Nat) × Int := l.foldl (fun s t => if s.2 < wide t then (t, wide t) else s) s
theorem farS_is {wide : Nat × Nat → Int} : ∀ (l : List (Nat × Nat)) (s : (Nat × Nat) × Int), s.2 ≤ (farS wide s l).2 ∧ (∀ t ∈ l, wide t ≤ (farS wide s l).2) ∧ (farS wide s l = s ∨ ∃ as t bs, l = as ++ t :: bs ∧ farS wide s l = (t, wide t) ∧ s.2 < wide t ∧ ∀ a ∈ as, wide a < wide t)
  | [], s => ⟨Int.le_refl _, fun t ht => (by cases ht), .inl rfl⟩
  | q :: l, s => by
    have e : farS wide s (q :: l) = farS wide (if s.2 < wide q then (q, wide q) else s) l := rfl
    obtain ⟨h1, h2, h3⟩ := farS_is (wide := wide) l (if s.2 < wide q then (q, wide q) else s)
    rw [e]
    by_cases hq : s.2 < wide q
    · rw [if_pos hq] at h1 h2 h3 ⊢
      dsimp only at h1 h3
      refine ⟨by omega, fun t ht => ?_, .inr ?_⟩
      · rcases List.mem_cons.1 ht with rfl | ht
        · exact h1
        · exact h2 t ht
      · rcases h3 with h3 | ⟨as, t, bs, rfl, h4, h5, h6⟩
        · exact ⟨[], q, l, rfl, h3, hq, fun a ha => (by cases ha)⟩
        · exact ⟨q :: as, t, bs, rfl, h4, by omega, fun a ha => by
            rcases List.mem_cons.1 ha with rfl | ha
            · exact h5
            · exact h6 a ha⟩
    · rw [if_neg hq] at h1 h2 h3 ⊢
      refine ⟨h1, fun t ht => ?_, ?_⟩
      · rcases List.mem_cons.1 ht with rfl | ht
        · omega
        · exact h2 t ht
      · rcases h3 with h3 | ⟨as, t, bs, rfl, h4, h5, h6⟩
        · exact .inl h3
        · exact .inr ⟨q :: as, t, bs, rfl, h4, h5, fun a ha => by
            rcases List.mem_cons.1 ha with rfl | ha
            · omega
            · exact h6 a ha⟩
/-- How wide it is what two blocks can differ by, by all truths; and the two that are widest. -/
def Prn.wideA (p : Prn) (t : Nat × Nat) : Int := (p.differA t.1 t.2).2 - (p.differA t.1 t.2).1
def Prn.farA (p : Prn) : (Nat × Nat) × Int := farS p.wideA ((0, 0), -1) (twosL p.bs.length)
end Go.Proofs.Ytmiobcnccbfknaa
