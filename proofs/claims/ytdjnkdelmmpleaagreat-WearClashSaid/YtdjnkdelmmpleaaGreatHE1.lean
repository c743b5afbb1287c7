/-
  LAW: WearShort: numbers.
-/
import Derived.Test.YtdjnkdelmmpleaaGreatGi
namespace Go.Proofs.YtdjnkdelmmpleaaGreat
open Go.RowKit Go.Proofs.Tryz


/-- What is left after the uses of the first i days. -/
def nowS (p : Wb) (D : List Int) (i : Nat) : Int := (mC p.n p.es.length).1 - sumI (D.take i) * p.uh
/-- What is told of days. -/
def DayIs (p : Wb) (m : Int) (D : List Int) (dv de : Int) : Prop := (de = 4 ∧ dv = 0 ∧ ∀ j, j < D.length → m ≤ nowS p D (j + 1)) ∨ ∃ y, y < D.length ∧ de = 0 ∧ dv = (y : Int) ∧ nowS p D (y + 1) < m ∧ ∀ j, j < y → m ≤ nowS p D (j + 1)
theorem DayIs.done {p : Wb} {m dv de : Int} {D : List Int} (h : DayIs p m D dv de) (h2 : ∀ q, q < D.length → m ≤ nowS p D (q + 1)) : de = 4 ∧ dv = 0 := by
  rcases h with ⟨e1, e2, _⟩ | ⟨y, hy, _, _, h3, _⟩
  · exact ⟨e1, e2⟩
  · exact absurd h3 (Int.not_lt.2 (h2 y hy))
end Go.Proofs.YtdjnkdelmmpleaaGreat
