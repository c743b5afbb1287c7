/-
  LAW: WearShort: numbers.
-/
import Derived.Test.YtdjnkdelmmpleaaGreatGi
namespace Go.Proofs.YtdjnkdelmmpleaaGreat
open Go.RowKit Go.Proofs.Tryz


theorem mC_poss {p : Wb} (hF : p.n.Fine) (hcan : p.n.can = true) {i : Nat} (hi : i ≤ p.es.length) : (mC p.n i).1 ≤ (mC p.n i).2 := by
  rw [mC_le p.n (show i ≤ p.n.es.length from hi)]
  exact hF.ok_.poss hcan i
/-- What is left after the uses of the first i days. -/
def nowS (p : Wb) (D : List Int) (i : Nat) : Int := (mC p.n p.es.length).1 - sumI (D.take i) * p.uh
/-- What is told of days. -/
def DayIs (p : Wb) (m : Int) (D : List Int) (dv de : Int) : Prop := (de = 4 ∧ dv = 0 ∧ ∀ j, j < D.length → m ≤ nowS p D (j + 1)) ∨ ∃ y, y < D.length ∧ de = 0 ∧ dv = (y : Int) ∧ nowS p D (y + 1) < m ∧ ∀ j, j < y → m ≤ nowS p D (j + 1)
theorem DayIs.hit {p : Wb} {m dv de : Int} {D : List Int} (h : DayIs p m D dv de) {j : Nat} (hj : j < D.length) (h1 : nowS p D (j + 1) < m) (h2 : ∀ q, q < j → m ≤ nowS p D (q + 1)) : de = 0 ∧ dv = (j : Int) := by
  rcases h with ⟨_, _, h3⟩ | ⟨y, hy, e1, e2, h3, h4⟩
  · exact absurd h1 (Int.not_lt.2 (h3 j hj))
  · rcases Nat.lt_trichotomy y j with h | h | h
    · exact absurd h3 (Int.not_lt.2 (h2 y h))
    · subst h
      exact ⟨e1, e2⟩
    · exact absurd h1 (Int.not_lt.2 (h4 j h))
theorem DayIs.done {p : Wb} {m dv de : Int} {D : List Int} (h : DayIs p m D dv de) (h2 : ∀ q, q < D.length → m ≤ nowS p D (q + 1)) : de = 4 ∧ dv = 0 := by
  rcases h with ⟨e1, e2, _⟩ | ⟨y, hy, _, _, h3, _⟩
  · exact ⟨e1, e2⟩
  · exact absurd h3 (Int.not_lt.2 (h2 y hy))
theorem bel_lt {w : Wn} (m : Int) {n : Nat} (hn : n ≤ 8) : belS w m n < 256 ∧ belP w m n < 256 :=
  have h : 2 ^ n ≤ 256 := Nat.pow_le_pow_right (by omega) hn
  ⟨Nat.lt_of_lt_of_le (bitsP_lt _ n) h, Nat.lt_of_lt_of_le (bitsP_lt _ n) h⟩
end Go.Proofs.YtdjnkdelmmpleaaGreat
