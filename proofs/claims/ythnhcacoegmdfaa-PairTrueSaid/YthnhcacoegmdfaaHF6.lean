/-
  LAW: PairLongest: numbers.
-/
import Derived.Test.YthnhcacoegmdfaaHF5
namespace Go.Proofs.Ythnhcacoegmdfaa
open Go.RowKit Go.Proofs.Try


theorem longA_lt (p : Pr) (_h : p.Fine) : p.n.longA.1 < 2 ^ p.bs.length ∧ p.n.longA.2 < 2 ^ p.bs.length := by
  have th : ∀ so, thoseL p.bs.length so < 2 ^ p.bs.length := fun so => Nat.lt_pow_two_of_testBit _ fun i hi => by
    rw [thoseL_bit]
    simp
    omega
  have key : ∀ (l : List Gp) (s : Nat × Nat), s.1 < 2 ^ p.bs.length ∧ s.2 < 2 ^ p.bs.length → (longS p.bs.length s l).1 < 2 ^ p.bs.length ∧ (longS p.bs.length s l).2 < 2 ^ p.bs.length := by
    intro l
    induction l with
    | nil => exact fun s h => h
    | cons g l ih => exact fun s hs => ih _ ⟨Nat.lt_of_le_of_lt Nat.and_le_left hs.1, Nat.or_lt_two_pow hs.2 (th _)⟩
  have := Nat.one_le_two_pow (n := p.bs.length)
  exact key _ _ ⟨by show 2 ^ p.bs.length - 1 < 2 ^ p.bs.length; omega, by show 0 < 2 ^ p.bs.length; omega⟩
section
variable {p : Pr} (h : p.Fine) (hn : p.n.known.isEmpty = false)
include h hn
omit hn in
theorem some_long {i : Nat} (hi : i < p.bs.length) : p.n.longA.2.testBit i = true ↔ p.n.some_ fun _ x => ∀ o, o < 5 → x o ≤ x i := Prn.perhaps_all h.ok hi h.b5
theorem sure_perhaps {i : Nat} (hi : i < p.bs.length) (h1 : p.n.longA.1.testBit i = true) : p.n.longA.2.testBit i = true := by
  obtain ⟨c, hc, x, hx, _⟩ := (known_some h.ok).1 hn
  exact (some_long h hi).2 ⟨c, hc, x, hx, (Prn.surely_all h.ok (i := i) hi h.b5).1 h1 c hc x hx⟩
theorem sure_sub : p.n.longA.1 ^^^ (p.n.longA.1 &&& p.n.longA.2) = 0 := by
  apply Nat.eq_of_testBit_eq
  intro i
  rw [Nat.testBit_xor, Nat.testBit_and, Nat.zero_testBit]
  by_cases hi : i < p.bs.length
  · cases hs : p.n.longA.1.testBit i with
    | false => rfl
    | true => rw [sure_perhaps h hn hi hs]; rfl
  · have h1 : p.n.longA.1.testBit i = false := Nat.testBit_lt_two_pow (Nat.lt_of_lt_of_le (longA_lt p h).1 (Nat.pow_le_pow_right (by omega) (by omega)))
    rw [h1]
    rfl
end
theorem shr_zero {x n : Nat} (h : x < 2 ^ n) : x >>> n = 0 := by
  rw [Nat.shiftRight_eq_div_pow]
  exact Nat.div_eq_of_lt h
end Go.Proofs.Ythnhcacoegmdfaa
