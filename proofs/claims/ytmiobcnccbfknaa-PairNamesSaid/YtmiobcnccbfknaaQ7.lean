/-
  PAIR: one bound more, put in row by row and number by number, in place.
-/
import Derived.Test.YtmiobcnccbfknaaQ6
namespace Go.Proofs.Ytmiobcnccbfknaa

/-- While a bound is put in: rows ahead of i, and of row i the numbers ahead of j, are done. -/
def Gp.mid (g : Gp) (a b : Nat) (m : Int) (i j : Nat) : Gp := fun i' j' => if i' < i ∨ i' = i ∧ j' < j then g.lim a b m i' j' else g i' j'
theorem Gp.mid_start (g : Gp) (a b : Nat) (m : Int) (i' j' : Nat) : g.mid a b m 0 0 i' j' = g i' j' := if_neg (by omega)
theorem Gp.mid_end (g : Gp) (a b : Nat) (m : Int) {n i' : Nat} (hi : i' < n) (j' : Nat) : g.mid a b m n 0 i' j' = g.lim a b m i' j' := if_pos (.inl hi)
/-- The row b is as it was, however far it has come. -/
theorem Gp.mid_b {n : Nat} {g : Gp} (h : g.Done n) {a b : Nat} (hb : b < n) {m : Int} (hm : 0 ≤ m + g b a) (i j : Nat) {j' : Nat} (hj : j' < n) : g.mid a b m i j b j' = g b j' := by
  unfold Gp.mid
  split
  · exact Gp.lim_over h hb hb hj (Gp.lim_row h hb hm)
  · rfl
/-- What is still to be done is as it was. -/
theorem Gp.mid_at (g : Gp) (a b : Nat) (m : Int) (i : Nat) {j j' : Nat} (h : j ≤ j') : g.mid a b m i j i j' = g i j' := if_neg (by omega)
/-- A row that is passed over. -/
theorem Gp.mid_over {n : Nat} {g : Gp} (h : g.Done n) {a b i : Nat} (hb : b < n) (hi : i < n) {m : Int} (hw : g i b ≤ g i a + m) {i' j' : Nat} (hj : j' < n) : g.mid a b m (i + 1) 0 i' j' = g.mid a b m i 0 i' j' := by
  unfold Gp.mid
  by_cases e : i' = i
  · subst e
    rw [if_pos (by omega), if_neg (by omega)]
    exact Gp.lim_over h hb hi hj hw
  · by_cases e2 : i' < i
    · rw [if_pos (by omega), if_pos (by omega)]
    · rw [if_neg (by omega), if_neg (by omega)]
/-- A row that has been gone through. -/
theorem Gp.mid_row (g : Gp) (a b : Nat) (m : Int) {n : Nat} (i i' : Nat) {j' : Nat} (hj : j' < n) : g.mid a b m i n i' j' = g.mid a b m (i + 1) 0 i' j' := by
  unfold Gp.mid
  by_cases e : i' < i ∨ i' = i ∧ j' < n
  · rw [if_pos e, if_pos (by omega)]
  · rw [if_neg e, if_neg (by omega)]
/-- One number more. -/
theorem Gp.mid_put (g : Gp) (a b : Nat) (m : Int) (i j i' j' : Nat) : g.mid a b m i (j + 1) i' j' = if i' = i ∧ j' = j then g.lim a b m i j else g.mid a b m i j i' j' := by
  unfold Gp.mid
  by_cases e : i' = i ∧ j' = j
  · obtain ⟨rfl, rfl⟩ := e
    rw [if_pos (by omega), if_pos ⟨rfl, rfl⟩]
  · rw [if_neg e]
    by_cases e2 : i' < i ∨ i' = i ∧ j' < j
    · rw [if_pos e2, if_pos (by omega)]
    · rw [if_neg e2, if_neg (by omega)]
/-- What is written: the lesser one of the number and of the way by the new bound. -/
theorem Gp.lim_is (g : Gp) (a b : Nat) (m : Int) (i j : Nat) : g.lim a b m i j = min (g i j) (g i a + m + g b j) := rfl
/-- Numbers of blocks that keep to limits do not overflow. -/
theorem Gp.sums {n : Nat} {g : Gp} (h : g.Done n) (hs : g.Small n 40) {m : Int} (m1 : -200 ≤ m) (m2 : m ≤ 200) {i a b j : Nat} (hi : i < n) (ha : a < n) (hb : b < n) (hj : j < n) : -240 ≤ m + g b a ∧ m + g b a ≤ 240 ∧ -240 ≤ g i a + m ∧ g i a + m ≤ 240 ∧ -280 ≤ g i a + m + g b j ∧ g i a + m + g b j ≤ 280 := by
  have h1 := Gp.low h hs hb ha
  have h2 := hs b a hb ha
  have h3 := Gp.low h hs hi ha
  have h4 := hs i a hi ha
  have h5 := Gp.low h hs hb hj
  have h6 := hs b j hb hj
  omega
/-- What a comparator shows keeps to limits. -/
theorem shw_in {c : Int × Int} {m : Int} (z1 : -10 ≤ c.1) (z2 : c.1 ≤ 10) (r1 : -5 ≤ c.2) (r2 : c.2 ≤ 5) (m1 : 0 ≤ m) (m2 : m ≤ 60) : -300 ≤ c.2 * m ∧ c.2 * m ≤ 300 ∧ -40 ≤ shw c m ∧ shw c m ≤ 40 := by
  have h1 : -300 ≤ c.2 * m := by
    have h := Int.mul_le_mul_of_nonneg_right r1 m1
    omega
  have h2 : c.2 * m ≤ 300 := by
    have h := Int.mul_le_mul_of_nonneg_right r2 m1
    omega
  unfold shw
  omega
end Go.Proofs.Ytmiobcnccbfknaa
