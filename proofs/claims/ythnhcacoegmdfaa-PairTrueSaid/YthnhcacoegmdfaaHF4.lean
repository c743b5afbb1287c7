/-
  LAW: PairEnds.
-/
import Derived.Test.YthnhcacoegmdfaaHF3
namespace Go.Proofs.Ythnhcacoegmdfaa
open Go.RowKit Go.Proofs.Try


theorem rem_run {P : Program} {w : World} {t : TypeId} (x y : Int) (hx : 0 ≤ x) (hy : 0 < y) : (binOp .rem t (.int .i64 x) (.int .i64 y) >>= fun v => pure (Next.value v)).run P w = .ok (.value (.int .i64 (x % y))) w := by
  have hy0 : ¬ y = 0 := by omega
  simp [binOp, Op.intDiv, hy0, Int.tmod_eq_emod_of_nonneg hx]
theorem blk_yes {a m : Nat} (h : a < m) : blkB (a : Int) (m : Int) = true := by unfold blkB; exact decide_eq_true ⟨by omega, by omega⟩
theorem elB_nat {p : Pr} {a : Nat} (ha : a < p.bs.length) : p.n.blk a = elB p.bs a := blk_in (p := p.n) ha
/-- A pair in which a deviation is known. -/
def Prn.pin (q : Prn) (a : Nat) (k : Int) : Prn := { q with bs := q.bs.set a (k, k) }
theorem known_some {q : Prn} (h : q.Ok) : q.known.isEmpty = false ↔ q.some_ fun _ _ => True := by
  rw [← Prn.known_is h]
  cases q.known <;> simp
theorem some_known {q : Prn} (h : q.Ok) {so : (Int × Int) → (Nat → Int) → Prop} (hs : q.some_ so) : q.known.isEmpty = false := by
  obtain ⟨c, hc, x, hx, _⟩ := hs
  exact (known_some h).2 ⟨c, hc, x, hx, trivial⟩
theorem ne_nil {α : Type} {l : List α} (h : l.isEmpty = false) : l ≠ [] := by rintro rfl; cases h
/-- What is told of the difference for each deviation of a that can be. -/
def enL (p : Pr) (a b j : Nat) : List (Int × Int) := (List.range j).filterMap fun (q : Nat) => if (p.n.pin a ((elB p.bs a).1 + (q : Int))).known.isEmpty then none else some ((elB p.bs a).1 + (q : Int) - ((p.n.pin a ((elB p.bs a).1 + (q : Int))).differA b 5).2, (elB p.bs a).1 + (q : Int) - ((p.n.pin a ((elB p.bs a).1 + (q : Int))).differA b 5).1)
def en (p : Pr) (a b j : Nat) : Int × Int := hullS (80, -80) (enL p a b j)
end Go.Proofs.Ythnhcacoegmdfaa
