/-
  LAW: PairClash: do the readings of a set clash; how many are in a set.
-/
import Derived.Test.YtmiobcnccbfknaaHF7
namespace Go.Proofs.Ytmiobcnccbfknaa
open Go.RowKit Go.Proofs.Try


/-- The pair without readings. -/
def Pr.bare (p : Pr) : Pr := { p with ra := none, rc := 0, rs := [] }
theorem Pr.In.bare {p : Pr} {w : World} (h : p.In w) : p.bare.In w := ⟨h.bl, fun h => absurd rfl h, h.ln, Nat.zero_le _⟩
theorem Pr.Fine.sub {p q : Pr} (h : p.Fine) (hb : q.bs = p.bs) (hz : q.zlo = p.zlo ∧ q.zhi = p.zhi ∧ q.rlo = p.rlo ∧ q.rhi = p.rhi) (hs : ∀ r ∈ q.rs, r ∈ p.rs) (hl : q.rs.length ≤ 8) : q.Fine := by
  obtain ⟨z1, z2, z3, z4⟩ := hz
  refine ⟨by rw [hb]; exact h.b1, by rw [hb]; exact h.b5, by rw [hb]; exact h.bl, by rw [z1, z2]; exact h.z, by rw [z1, z2]; exact h.zw, by rw [z3, z4]; exact h.r, by rw [z3, z4]; exact h.rw_, hl, fun k hk => ?_⟩
  obtain ⟨j, hj, e⟩ := List.getElem_of_mem (hs _ (elR_mem hk))
  have := h.rd j hj
  rw [elR_at (List.getElem?_eq_getElem hj), e] at this
  rw [hb]
  exact this
def less (s i : Nat) : Nat := s ^^^ (s &&& 1 <<< i)
section
variable {p : Pr} (h : p.Fine)
include h
end
end Go.Proofs.Ytmiobcnccbfknaa
