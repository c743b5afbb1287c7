/-
  LAW: PairEnds.
-/
import Derived.Test.YtmiobcnccbfknaaHF3
namespace Go.Proofs.Ytmiobcnccbfknaa
open Go.RowKit Go.Proofs.Try


theorem blk_yes {a m : Nat} (h : a < m) : blkB (a : Int) (m : Int) = true := by unfold blkB; exact decide_eq_true ⟨by omega, by omega⟩
/-- A pair in which a deviation is known. -/
def Prn.pin (q : Prn) (a : Nat) (k : Int) : Prn := { q with bs := q.bs.set a (k, k) }
/-- What is told of the difference for each deviation of a that can be. -/
def enL (p : Pr) (a b j : Nat) : List (Int × Int) := (List.range j).filterMap fun (q : Nat) => if (p.n.pin a ((elB p.bs a).1 + (q : Int))).known.isEmpty then none else some ((elB p.bs a).1 + (q : Int) - ((p.n.pin a ((elB p.bs a).1 + (q : Int))).differA b 5).2, (elB p.bs a).1 + (q : Int) - ((p.n.pin a ((elB p.bs a).1 + (q : Int))).differA b 5).1)
def en (p : Pr) (a b j : Nat) : Int × Int := hullS (80, -80) (enL p a b j)
end Go.Proofs.Ytmiobcnccbfknaa
