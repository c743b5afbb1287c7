/-
  LAW: WearShort: numbers.
-/
import Derived.Test.YtdjnkdelmmpleaaGreatGi
namespace Go.Proofs.YtdjnkdelmmpleaaGreat
open Go.RowKit Go.Proofs.Tryz


theorem mC_poss {p : Wb} (hF : p.n.Fine) (hcan : p.n.can = true) {i : Nat} (hi : i ≤ p.es.length) : (mC p.n i).1 ≤ (mC p.n i).2 := by
  rw [mC_le p.n (show i ≤ p.n.es.length from hi)]
  exact hF.ok_.poss hcan i
theorem mC_bd {p : Wb} (hF : p.n.Fine) {i : Nat} (hi : i ≤ p.es.length) : bdS (mC p.n i) 2000 := by
  rw [mC_le p.n (show i ≤ p.n.es.length from hi)]
  exact hF.B_bd hi
theorem too_is {x u : Sp} {m n : Int} (hx : x.1 ≤ x.2) : tooF x u m n = decide (x.1 - n * u.2 < m) := by
  unfold tooF movS possS
  rw [decide_eq_true hx]
  rfl
theorem unt_is {p : Wb} (hF : p.n.Fine) (hcan : p.n.can = true) (m : Int) (i : Nat) : untF p m i = !decide ((mC p.n p.es.length).1 - dnN 100 i * p.uh < m) := by
  unfold untF
  rw [too_is (mC_poss hF hcan (Nat.le_refl _))]
theorem until_is {p : Wb} (hF : p.n.Fine) (hcan : p.n.can = true) {m uv ue : Int} (hm : spI (m, m) (-1000) 1000 = true) (e1 : inA (untilR p m) = uv) (e2 : erA (untilR p m) = ue) :
    ((mC p.n p.es.length).1 ≥ m ∧ ue = 0 ∧ 0 ≤ uv ∧ uv ≤ 100 ∧ (mC p.n p.es.length).1 - uv * p.uh ≥ m ∧ (uv < 100 → (mC p.n p.es.length).1 - (uv + 1) * p.uh < m) ∧ 0 ≤ uv * p.uh ∧ uv * p.uh ≤ 300 ∧ 0 ≤ (uv + 1) * p.uh ∧ (uv + 1) * p.uh ≤ 303) ∨ ((mC p.n p.es.length).1 < m ∧ ue = 4 ∧ uv = 0) := by
  have hu := hF.u
  have hu1 : 0 ≤ p.uh ∧ p.uh ≤ 3 := by have h1 : 0 ≤ p.ul ∧ p.ul ≤ p.uh ∧ p.uh ≤ 3 := hu; omega
  have mb : ∀ x : Int, 0 ≤ x → 0 ≤ x * p.uh ∧ x * p.uh ≤ x * 3 := fun x hx => ⟨Int.mul_nonneg hx hu1.1, Int.mul_le_mul_of_nonneg_left hu1.2 hx⟩
  unfold untilR at e1 e2
  rw [hF.okB, hm, hcan] at e1 e2
  simp only [cond_true] at e1 e2
  rcases frN_is (pr := untF p m) (n := 101) with ⟨h1, h2⟩ | ⟨y, h1, hy, hp, h2⟩
  · rw [h1] at e1 e2
    have h3 := h2 100 (by omega)
    rw [unt_is hF hcan] at h3
    have h4 : (mC p.n p.es.length).1 - dnN 100 100 * p.uh < m := by simpa using h3
    rw [show dnN 100 100 = 0 from rfl, Int.zero_mul] at h4
    exact .inr ⟨by omega, e2.symm, e1.symm⟩
  · rw [h1] at e1 e2
    have e1 : dnN 100 y = uv := e1
    have e2 : (0 : Int) = ue := e2
    rw [unt_is hF hcan, e1] at hp
    have h4 : ¬ (mC p.n p.es.length).1 - uv * p.uh < m := by simpa using hp
    have huv : uv = ((100 - y : Nat) : Int) := e1.symm
    have b1 := mb uv (by omega)
    have b2 := mb (uv + 1) (by omega)
    refine .inl ⟨by omega, e2.symm, by omega, by omega, by omega, fun h => ?_, b1.1, by omega, b2.1, by omega⟩
    have h5 := h2 (y - 1) (by omega)
    rw [unt_is hF hcan, show dnN 100 (y - 1) = uv + 1 from by unfold dnN; omega] at h5
    simpa using h5
/-- What is left after the uses of the first i days. -/
def nowS (p : Wb) (D : List Int) (i : Nat) : Int := (mC p.n p.es.length).1 - sumI (D.take i) * p.uh
theorem now_zero (p : Wb) (D : List Int) : nowS p D 0 = (mC p.n p.es.length).1 := by
  unfold nowS
  rw [List.take_zero]
  show _ - (0 : Int) * p.uh = _
  rw [Int.zero_mul, Int.sub_zero]
theorem now_next {p : Wb} {D : List Int} {i : Nat} (hi : i < D.length) : nowS p D (i + 1) = nowS p D i - elI D i * p.uh := by
  unfold nowS
  rw [sumI_next hi, Int.add_mul]
  omega
theorem now_bd {p : Wb} (hF : p.n.Fine) {D : List Int} (h10 : D.length ≤ 10) (hv : D.all vUses = true) {i : Nat} (hi : i ≤ D.length) : -2600 ≤ nowS p D i ∧ nowS p D i ≤ 2000 := by
  have h1 := sum_bd hv i hi
  have h2 := mC_bd hF (Nat.le_refl p.es.length)
  have hu1 : 0 ≤ p.uh ∧ p.uh ≤ 3 := by have h1 : 0 ≤ p.ul ∧ p.ul ≤ p.uh ∧ p.uh ≤ 3 := hF.u; omega
  have h3 := Int.mul_nonneg h1.1 hu1.1
  have h4 : sumI (D.take i) * p.uh ≤ sumI (D.take i) * 3 := Int.mul_le_mul_of_nonneg_left hu1.2 h1.1
  unfold nowS
  unfold bdS at h2
  omega
/-- What is told of days. -/
def DayIs (p : Wb) (m : Int) (D : List Int) (dv de : Int) : Prop := (de = 4 ∧ dv = 0 ∧ ∀ j, j < D.length → m ≤ nowS p D (j + 1)) ∨ ∃ y, y < D.length ∧ de = 0 ∧ dv = (y : Int) ∧ nowS p D (y + 1) < m ∧ ∀ j, j < y → m ≤ nowS p D (j + 1)
theorem DayIs.hit {p : Wb} {m dv de : Int} {D : List Int} (h : DayIs p m D dv de) {j : Nat} (hj : j < D.length) (h1 : nowS p D (j + 1) < m) (h2 : ∀ q, q < j → m ≤ nowS p D (q + 1)) : de = 0 ∧ dv = (j : Int) := by
  rcases h with ⟨_, _, h3⟩ | ⟨y, hy, e1, e2, h3, h4⟩
  · exact absurd h1 (Int.not_lt.2 (h3 j hj))
  · rcases Nat.lt_trichotomy y j with h | h | h
    · exact absurd h3 (Int.not_lt.2 (h2 y h))
    · subst h
      exact ⟨e1, e2⟩
    · exact absurd h1 (Int.not_lt.2 (h4 j h))
theorem DayIs.done {p : Wb} {m dv de : Int} {D : List Int} (h : DayIs p m D dv de) (h2 : ∀ q, q < D.length → m ≤ nowS p D (q + 1)) : de = 4 ∧ dv = 0 := by
  rcases h with ⟨e1, e2, _⟩ | ⟨y, hy, _, _, h3, _⟩
  · exact ⟨e1, e2⟩
  · exact absurd h3 (Int.not_lt.2 (h2 y hy))
theorem day_is {p : Wb} (hF : p.n.Fine) (hcan : p.n.can = true) {m dv de : Int} {D : List Int} (h10 : D.length ≤ 10) (hv : D.all vUses = true) (hm : spI (m, m) (-1000) 1000 = true) (e1 : inA (dayR p m D) = dv) (e2 : erA (dayR p m D) = de) :
    DayIs p m D dv de := by
  have key : ∀ j, dayF p m D j = decide (nowS p D (j + 1) < m) := fun j => by
    unfold dayF nowS
    exact too_is (mC_poss hF hcan (Nat.le_refl _))
  unfold dayR at e1 e2
  rw [hF.okB, decide_eq_true h10, hm, hv, hcan] at e1 e2
  simp only [cond_true] at e1 e2
  rcases frN_is (pr := dayF p m D) (n := D.length) with ⟨h1, h2⟩ | ⟨y, h1, hy, hp, h2⟩
  · rw [h1] at e1 e2
    refine .inl ⟨e2.symm, e1.symm, fun j hj => ?_⟩
    have := h2 j hj
    rw [key] at this
    have := of_decide_eq_false this
    omega
  · rw [h1] at e1 e2
    refine .inr ⟨y, hy, e2.symm, e1.symm, ?_, fun j hj => ?_⟩
    · rw [key] at hp
      exact of_decide_eq_true hp
    · have := h2 j hj
      rw [key] at this
      have := of_decide_eq_false this
      omega
end Go.Proofs.YtdjnkdelmmpleaaGreat
