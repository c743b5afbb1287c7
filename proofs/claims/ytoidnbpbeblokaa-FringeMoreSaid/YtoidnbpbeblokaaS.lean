/-
  WHAT THE FUNCTIONS OF THE LAYER COMPUTE, on numbers and lists: no program stands here.
-/
import Derived.Below
namespace Go.Proofs.Ytoidnbpbeblokaa

/-- A reading: its colour, and the part from .. to. -/
abbrev Rd := Int × Int × Int

def vWave (x : Int) : Bool := decide (2 ≤ x ∧ x ≤ 60)
def vWaves (xs : List Int) : Bool := decide (1 ≤ xs.length ∧ xs.length ≤ 4) && xs.all vWave
def vLen (lo hi : Int) : Bool := decide (0 ≤ lo ∧ lo ≤ hi ∧ hi ≤ 2000 ∧ hi - lo ≤ 400)
def vPart (lo hi : Int) : Bool := decide (0 ≤ lo ∧ lo ≤ 19 ∧ lo ≤ hi ∧ hi ≤ lo + 19)
def vRead (n : Int) (r : Rd) : Bool := decide (0 ≤ r.1 ∧ r.1 < n) && vPart r.2.1 r.2.2
def vReads (rs : List Rd) (n : Int) : Bool := decide (rs.length ≤ 6) && rs.all (vRead n)
def vFringe (ws : List Int) (lo hi : Int) (rs : List Rd) : Bool := vWaves ws && vLen lo hi && vReads rs ws.length

theorem vWaves_no {xs : List Int} (h : xs.length < 1 ∨ 4 < xs.length) : vWaves xs = false := by
  have : ¬ (1 ≤ xs.length ∧ xs.length ≤ 4) := by omega
  simp [vWaves, this]
theorem vWaves_bad {xs : List Int} {i : Nat} (hi : i < xs.length) (h : xs[i]?.getD 0 < 2 ∨ 60 < xs[i]?.getD 0) : vWaves xs = false := by
  have h1 : xs.all vWave = false := by
    rw [List.all_eq_false]
    refine ⟨xs[i], List.getElem_mem hi, ?_⟩
    simp only [List.getElem?_eq_getElem hi, Option.getD_some] at h
    simp [vWave]; omega
  simp [vWaves, h1]
theorem vWaves_yes {xs : List Int} (h1 : 1 ≤ xs.length) (h2 : xs.length ≤ 4) (h : ∀ i, i < xs.length → 2 ≤ xs[i]?.getD 0 ∧ xs[i]?.getD 0 ≤ 60) : vWaves xs = true := by
  simp only [vWaves, Bool.and_eq_true, decide_eq_true_eq, List.all_eq_true, vWave]
  refine ⟨⟨h1, h2⟩, fun x hx => ?_⟩
  obtain ⟨i, hi, rfl⟩ := List.getElem_of_mem hx
  have := h i hi
  simpa [List.getElem?_eq_getElem hi] using this
theorem vReads_no {rs : List Rd} {n : Int} (h : 6 < rs.length) : vReads rs n = false := by
  have : ¬ (rs.length ≤ 6) := by omega
  simp [vReads, this]
theorem vReads_bad {rs : List Rd} {n : Int} {i : Nat} (hi : i < rs.length) (h : vRead n (rs[i]?.getD (0, 0, 0)) = false) : vReads rs n = false := by
  have h1 : rs.all (vRead n) = false := by
    rw [List.all_eq_false]
    refine ⟨rs[i], List.getElem_mem hi, ?_⟩
    simp only [List.getElem?_eq_getElem hi, Option.getD_some] at h
    simp [h]
  simp [vReads, h1]
theorem vReads_yes {rs : List Rd} {n : Int} (h1 : rs.length ≤ 6) (h : ∀ i, i < rs.length → vRead n (rs[i]?.getD (0, 0, 0)) = true) : vReads rs n = true := by
  simp only [vReads, Bool.and_eq_true, decide_eq_true_eq, List.all_eq_true]
  refine ⟨h1, fun x hx => ?_⟩
  obtain ⟨i, hi, rfl⟩ := List.getElem_of_mem hx
  have := h i hi
  simpa [List.getElem?_eq_getElem hi] using this

end Go.Proofs.Ytoidnbpbeblokaa
