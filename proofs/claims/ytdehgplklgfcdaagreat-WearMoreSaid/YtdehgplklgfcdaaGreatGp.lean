/-
  LAW: WearTrue: numbers drawn by remainders.
  LAW: WearTrue: a truth that is made: numbers; draws.
-/
import Derived.Test.YtdehgplklgfcdaaGreatGi
import Derived.Test.YtdehgplklgfcdaaGreatGb
import Derived.Test.YtdehgplklgfcdaaGreatHF6
namespace Go.Proofs.YtdehgplklgfcdaaGreat
open Go.RowKit Go.Proofs.Tryz


/-- A reading that is right of n, as wide as it was. -/
def xeE (e : Ev) (n : Int) : Ev := if e.1 = 1 then (1, 0, n - min (e.2.2.2 - e.2.2.1) 30 / 2, n + min (e.2.2.2 - e.2.2.1) 30 - min (e.2.2.2 - e.2.2.1) 30 / 2) else e
def xsT (es : List Ev) (T : Nat → Nat × Int) (j : Nat) : List Ev := (List.range es.length).map fun i => if i < j then xeE (elE es i) (T i).2 else elE es i
def lnT (T : Nat → Nat × Int) (j : Nat) : List Int := (List.range (j + 1)).map fun i => (T i).2
@[simp] theorem xsT_len (es : List Ev) (T : Nat → Nat × Int) (j : Nat) : (xsT es T j).length = es.length := by unfold xsT; rw [List.length_map, List.length_range]
@[simp] theorem lnT_len (T : Nat → Nat × Int) (j : Nat) : (lnT T j).length = j + 1 := by unfold lnT; rw [List.length_map, List.length_range]
/-- Lengths that a block truly has. -/
structure TruW (w : Wn) (t : Nat → Int) : Prop where
  first : inP (t 0) w.l
  step : ∀ i, i < w.es.length → Rst w.u (elE w.es i) (t i) (t (i + 1))
theorem TruW.pre {w : Wn} {t : Nat → Int} (h : TruW w t) : ∀ j, j ≤ w.es.length → Rch w.u (w.es.take j) (t 0) (t j)
  | 0, _ => rfl
  | j + 1, hj => by
    rw [List.take_succ_eq_append_getElem (show j < w.es.length by omega), ← elE_at (show j < w.es.length by omega)]
    exact Rch_append.2 ⟨t j, h.pre j (by omega), t (j + 1), h.step j (by omega), rfl⟩
theorem TruW.post {w : Wn} {t : Nat → Int} (h : TruW w t) : ∀ d j, j + d = w.es.length → Rch w.u (w.es.drop j) (t j) (t w.es.length)
  | 0, j, hj => by
    rw [List.drop_eq_nil_of_le (by omega), show j = w.es.length by omega]
    rfl
  | d + 1, j, hj => by
    rw [List.drop_eq_getElem_cons (show j < w.es.length by omega), ← elE_at (show j < w.es.length by omega)]
    exact ⟨t (j + 1), h.step j (by omega), h.post d (j + 1) (by omega)⟩
theorem TruW.at {w : Wn} {t : Nat → Int} (h : TruW w t) {j : Nat} (hj : j ≤ w.es.length) : w.At j (t j) := ⟨⟨t 0, h.first, h.pre j hj⟩, t w.es.length, h.post (w.es.length - j) j (by omega)⟩
theorem TruW.way {w : Wn} {t : Nat → Int} (h : TruW w t) : w.Way (t 0) (t w.es.length) := ⟨h.first, by have := h.post w.es.length 0 (by omega); rwa [List.drop_zero] at this⟩
theorem TruW.can {w : Wn} {t : Nat → Int} (h : TruW w t) (hF : w.Fine) : w.can = true := hF.ok_.can_iff.2 ⟨_, _, h.way⟩
end Go.Proofs.YtdehgplklgfcdaaGreat
