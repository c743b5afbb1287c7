/-
  LAW: WearLater: numbers.
-/
import Derived.Test.YtdehgplklgfcdaaGreatGn
namespace Go.Proofs.YtdehgplklgfcdaaGreat
open Go.RowKit Go.Proofs.Tryz


def Wn.jn (w : Wn) (k : Nat) (n : Int) : Wn := ⟨w.l, w.u, w.es.take k ++ [(0, n, 0, 0)]⟩
def Wb.jn (p : Wb) (k : Nat) (n : Int) (a : Option Addr) (c : Nat) : Wb := ⟨p.ll, p.lh, p.ul, p.uh, a, c, p.es.take k ++ [(0, n, 0, 0)]⟩
structure Jn (w : Wn) (k : Nat) (n : Int) : Prop where
  F : w.Fine
  len : w.es.length = k + 2
  e1 : (elE w.es k).1 = 0
  e2 : (elE w.es (k + 1)).1 = 0
  sum : (elE w.es (k + 1)).2.1 + (elE w.es k).2.1 = n
  ok : (w.jn k n).ok = true
end Go.Proofs.YtdehgplklgfcdaaGreat
