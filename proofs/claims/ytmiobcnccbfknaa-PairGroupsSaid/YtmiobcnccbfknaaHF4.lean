/-
  LAW: PairEnds.
-/
import Derived.Test.YtmiobcnccbfknaaHF3
namespace Go.Proofs.Ytmiobcnccbfknaa
open Go.RowKit Go.Proofs.Try


theorem rem_run {P : Program} {w : World} {t : TypeId} (x y : Int) (hx : 0 ≤ x) (hy : 0 < y) : (binOp .rem t (.int .i64 x) (.int .i64 y) >>= fun v => pure (Next.value v)).run P w = .ok (.value (.int .i64 (x % y))) w := by
  have hy0 : ¬ y = 0 := by omega
  simp [binOp, Op.intDiv, hy0, Int.tmod_eq_emod_of_nonneg hx]
/-- A pair in which a deviation is known. -/
def Prn.pin (q : Prn) (a : Nat) (k : Int) : Prn := { q with bs := q.bs.set a (k, k) }
/-- What is told of the difference for each deviation of a that can be. -/
def enL (p : Pr) (a b j : Nat) : List (Int × Int) := (List.range j).filterMap fun (q : Nat) => if (p.n.pin a ((elB p.bs a).1 + (q : Int))).known.isEmpty then none else some ((elB p.bs a).1 + (q : Int) - ((p.n.pin a ((elB p.bs a).1 + (q : Int))).differA b 5).2, (elB p.bs a).1 + (q : Int) - ((p.n.pin a ((elB p.bs a).1 + (q : Int))).differA b 5).1)
def en (p : Pr) (a b j : Nat) : Int × Int := hullS (80, -80) (enL p a b j)
end Go.Proofs.Ytmiobcnccbfknaa
