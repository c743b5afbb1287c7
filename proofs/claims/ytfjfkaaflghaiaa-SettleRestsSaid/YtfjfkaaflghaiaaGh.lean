/-
  LAW: numbers: when a block has settled; from when on; how an excess falls.
-/
import Derived.Test.YtfjfkaaflghaiaaGg
namespace Go.Proofs.Ytfjfkaaflghaiaa
open Go.RowKit Go.Proofs.Try
attribute [local irreducible] Run wpK


/-- A span that is near. -/
def nrS (n : Int) (e : Sp) : Prop := -n ≤ e.1 ∧ e.1 ≤ n ∧ -n ≤ e.2 ∧ e.2 ≤ n
theorem jdE_two {n : Int} {e : Sp} : jdE n e = 2 ↔ nrS n e := by
  unfold jdE nrS
  constructor
  · intro h
    split at h
    · assumption
    · split at h <;> cases h
  · intro h
    rw [if_pos h]
theorem judge_two {s : Sn} {b m : Nat} (hw : 0 < slW (elB s.bs b)) : s.judge b m = 2 ↔ ∀ i, i < slW (elB s.bs b) → s.jd b m i = 2 := by
  constructor
  · intro h i hi
    by_cases h2 : ∀ i, i < slW (elB s.bs b) → s.jd b m i = s.jd b m 0
    · rw [judge_all h2] at h
      rw [h2 i hi, h]
    · unfold Sn.judge at h
      rw [if_neg h2] at h
      cases h
  · intro h
    rw [judge_all fun i hi => by rw [h i hi, h 0 hw], h 0 hw]
theorem set_iff {s : Sn} (hF : s.Fine) {b m : Nat} (hb : b < s.bs.length) : s.set b m = true ↔ ∀ i, i < slW (elB s.bs b) → nrS s.near (s.en b (slN (elB s.bs b) i) m) := by
  have hw := slW_bd (hF.bkF hb)
  unfold Sn.set
  rw [beq_iff_eq, judge_two (by omega)]
  exact ⟨fun h i hi => jdE_two.1 (h i hi), fun h i hi => jdE_two.2 (h i hi)⟩
theorem frm_is {s : Sn} {Ns : List Nat} {N : Nat} : (s.frm Ns N = (0, false) ∧ s.sets Ns N = false) ∨ ∃ g : Nat, g ≤ N ∧ s.frm Ns N = ((g : Int), true) ∧ (∀ j, g ≤ j → j ≤ N → s.sets Ns j = true) ∧ (0 < g → s.sets Ns (g - 1) = false) := by
  rcases frN_is (pr := fun i => !s.sets Ns (N - i)) (n := N + 1) with ⟨h1, h2⟩ | ⟨y, h1, hy, hp, h2⟩
  · refine .inr ⟨0, Nat.zero_le _, ?_, fun j _ hj => ?_, fun h => absurd h (Nat.lt_irrefl _)⟩
    · unfold Sn.frm
      rw [h1]
      show (((N - N : Nat) : Int), true) = _
      rw [Nat.sub_self]
    · have := h2 (N - j) (by omega)
      rw [show N - (N - j) = j by omega] at this
      simpa using this
  · have hf : s.frm Ns N = (mnV N y, ask y) := by unfold Sn.frm; rw [h1]
    have hp : s.sets Ns (N - y) = false := by simpa using hp
    cases y with
    | zero => exact .inl ⟨hf, hp⟩
    | succ y =>
      refine .inr ⟨N - y, by omega, hf, fun j hj hj2 => ?_, fun _ => ?_⟩
      · have := h2 (N - j) (by omega)
        rw [show N - (N - j) = j by omega] at this
        simpa using this
      · rw [show N - y - 1 = N - (y + 1) by omega]; exact hp
theorem sets_one {s : Sn} {b m : Nat} : s.sets [b] m = s.set b m := by unfold Sn.sets; simp
theorem fallP_mono {x y k : Int} (hk : 1 ≤ k) (h : x ≤ y) : fallP x k ≤ fallP y k := by
  unfold fallP
  have h1 : (y + k - 1) / k ≤ (x + k - 1) / k + (y - x) := by
    have h2 : y + k - 1 ≤ (x + k - 1) + (y - x) * k := by
      have := Int.mul_le_mul_of_nonneg_left hk (show 0 ≤ y - x by omega)
      rw [Int.mul_one] at this
      omega
    calc (y + k - 1) / k ≤ ((x + k - 1) + (y - x) * k) / k := Int.ediv_le_ediv (by omega) h2
      _ = (x + k - 1) / k + (y - x) := Int.add_mul_ediv_right _ _ (by omega)
  omega
end Go.Proofs.Ytfjfkaaflghaiaa
