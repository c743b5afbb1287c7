/-
  LAW: inside; a pair in which a deviation is known; a pair with readings more.
-/
import Derived.Test.YtmiobcnccbfknaaHF2
import Derived.Test.YtmiobcnccbfknaaGb
namespace Go.Proofs.Ytmiobcnccbfknaa
open Go.RowKit Go.Proofs.Try


def Pr.rd_ (p : Pr) (g cap : Nat) (L : List Rw) : Pr := { p with ra := some ⟨g, 0, none⟩, rc := cap, rs := L }
theorem Pr.In.rd_ {p : Pr} {w : World} (h : p.In w) {g : Nat} (cap : Nat) {L : List Rw} {sp : List Value} {t : TypeId} {fr : Nat × Nat} (hw : w.heap[g]? = some (.cells (L.flatMap rdR ++ sp).toArray t fr)) (hl : L.length ≤ maxLen) : (p.rd_ g cap L).In w := ⟨h.bl, Rds.of_flat hw, h.ln, hl⟩
theorem Bls.flat {w : World} {a : Option Addr} {bs : List (Int × Int)} (h : Bls w a bs) : bs ≠ [] → ∃ b o, a = some ⟨b, o, none⟩ ∧ ∀ j u, (bs.flatMap spR)[j]? = some u → w.cell? ((⟨b, o, none⟩ : Addr).add j) = some u := by
  intro hx
  obtain ⟨b, o, e, hc⟩ := h hx
  refine ⟨b, o, e, flat_cells spR_len fun i x hi k u hk => ?_⟩
  have hl := (List.getElem?_eq_some_iff.1 hi).1
  have h5 := hc i hl
  have e2 : elB bs i = x := by unfold elB; rw [hi]; rfl
  rw [e2] at h5
  exact c2 h5.1 h5.2 k u hk
end Go.Proofs.Ytmiobcnccbfknaa
