/-
  LAW: a touch more; SettleLatest: numbers.
-/
import Derived.Test.YtfjfkaaflghaiaaGg
namespace Go.Proofs.Ytfjfkaaflghaiaa
open Go.RowKit Go.Proofs.Try
attribute [local irreducible] Run wpK


theorem set_is {s : Sn} {b m : Nat} (hok : s.ok = true) (hb : b < s.bs.length) (hm : (m : Int) ≤ s.last) : setR s b m = .inr (s.judge b m) := by
  unfold setR Sn.isB Sn.isM inI
  rw [hok, decide_eq_true (show (0 : Int) ≤ (b : Int) ∧ (b : Int) ≤ (s.bs.length : Int) - 1 by omega), decide_eq_true (show (0 : Int) ≤ (m : Int) ∧ (m : Int) ≤ s.last by omega)]
  rfl
theorem lastN_is {s : Sn} (hok : s.ok = true) : 1 ≤ s.last ∧ s.last ≤ 60 := by
  unfold Sn.ok at hok
  simp only [Bool.and_eq_true] at hok
  exact of_decide_eq_true hok.1.1.2
def LatIs (s : Sn) (b : Nat) (h : Int) (m : Nat) (nv ne : Int) : Prop := (ne = 4 ∧ nv = 0 ∧ ∀ j, j ≤ m → latF s b h m j = false) ∨ ∃ y, y ≤ m ∧ ne = 0 ∧ nv = (m : Int) - (y : Int) ∧ latF s b h m y = true ∧ ∀ j, j < y → latF s b h m j = false
theorem LatIs.q {s : Sn} {b m : Nat} {h nv ne : Int} (H : LatIs s b h m nv ne) : (ne = 0 ∧ 0 ≤ nv ∧ nv ≤ (m : Int)) ∨ (ne = 4 ∧ nv = 0) := by
  rcases H with ⟨h1, h2, _⟩ | ⟨y, hy, h1, h2, _⟩
  · exact .inr ⟨h1, h2⟩
  · exact .inl ⟨h1, by omega, by omega⟩
end Go.Proofs.Ytfjfkaaflghaiaa
