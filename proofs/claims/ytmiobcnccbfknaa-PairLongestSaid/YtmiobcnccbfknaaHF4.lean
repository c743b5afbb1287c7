/-
  LAW: PairEnds.
-/
import Derived.Test.YtmiobcnccbfknaaHF3
namespace Go.Proofs.Ytmiobcnccbfknaa
open Go.RowKit Go.Proofs.Try


theorem rem_run {P : Program} {w : World} {t : TypeId} (x y : Int) (hx : 0 ≤ x) (hy : 0 < y) : (binOp .rem t (.int .i64 x) (.int .i64 y) >>= fun v => pure (Next.value v)).run P w = .ok (.value (.int .i64 (x % y))) w := by
  have hy0 : ¬ y = 0 := by omega
  simp [binOp, Op.intDiv, hy0, Int.tmod_eq_emod_of_nonneg hx]
theorem blk_yes {a m : Nat} (h : a < m) : blkB (a : Int) (m : Int) = true := by unfold blkB; exact decide_eq_true ⟨by omega, by omega⟩
/-- A pair in which a deviation is known. -/
def Prn.pin (q : Prn) (a : Nat) (k : Int) : Prn := { q with bs := q.bs.set a (k, k) }
theorem known_some {q : Prn} (h : q.Ok) : q.known.isEmpty = false ↔ q.some_ fun _ _ => True := by
  rw [← Prn.known_is h]
  cases q.known <;> simp
theorem ne_nil {α : Type} {l : List α} (h : l.isEmpty = false) : l ≠ [] := by rintro rfl; cases h
/-- What is told of the difference for each deviation of a that can be. -/
def enL (p : Pr) (a b j : Nat) : List (Int × Int) := (List.range j).filterMap fun (q : Nat) => if (p.n.pin a ((elB p.bs a).1 + (q : Int))).known.isEmpty then none else some ((elB p.bs a).1 + (q : Int) - ((p.n.pin a ((elB p.bs a).1 + (q : Int))).differA b 5).2, (elB p.bs a).1 + (q : Int) - ((p.n.pin a ((elB p.bs a).1 + (q : Int))).differA b 5).1)
def en (p : Pr) (a b j : Nat) : Int × Int := hullS (80, -80) (enL p a b j)
theorem differ_bd2 {p : Pr} (h : p.Fine) {a b : Nat} (ha : a < 5) (hb : b < 6) (hn : p.n.known.isEmpty = false) : ((p.n.differA a b).1 ≤ (p.n.differA a b).2) ∧ -1000 ≤ (p.n.differA a b).1 ∧ (p.n.differA a b).2 ≤ 1000 := by
  obtain ⟨d1, ⟨c, hc, x, hx, h1⟩, ⟨c2, hc2, y, hy, h2⟩⟩ := Prn.differA_is h.ok (ne_nil hn) (a := a) (b := b) (by omega) hb
  have q1 := d1 c hc x hx
  have bd : ∀ (z : Nat → Int) (c : Int × Int), p.n.Tr c z → ∀ i, i < 6 → -20 ≤ z i ∧ z i ≤ 20 := by
    intro z c hz i hi
    by_cases e : i = 5
    · subst e
      rw [hz.mark]
      omega
    · have := hz.blk i (by omega)
      have := h.ok.bl i (by omega)
      omega
  have b1 := bd x c hx a (by omega)
  have b2 := bd x c hx b hb
  have b3 := bd y c2 hy a (by omega)
  have b4 := bd y c2 hy b hb
  omega
theorem differ_own {p : Pr} (h : p.Fine) {a : Nat} (ha : a < 5) (hn : p.n.known.isEmpty = false) : p.n.differA a a = (0, 0) := by
  obtain ⟨_, ⟨c, hc, x, hx, h1⟩, ⟨c2, hc2, y, hy, h2⟩⟩ := Prn.differA_is h.ok (ne_nil hn) (a := a) (b := a) (by omega) (by omega)
  exact Prod.ext (by show _ = (0 : Int); omega) (by show _ = (0 : Int); omega)
end Go.Proofs.Ytmiobcnccbfknaa
