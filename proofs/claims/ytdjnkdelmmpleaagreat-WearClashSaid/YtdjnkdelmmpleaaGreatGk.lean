/-
  REF: power, Has, takes, next, run, can, every, check.
  REF: can, every, check, after.
-/
import Derived.Test.YtdjnkdelmmpleaaGreatHE1
namespace Go.Proofs.YtdjnkdelmmpleaaGreat
open Go.RowKit Go.Proofs.Tryz


theorem pow_le8 {n : Nat} (h : n ≤ 8) : 2 ^ n ≤ 256 ∧ 0 < 2 ^ n := ⟨Nat.pow_le_pow_right (by omega) h, Nat.two_pow_pos n⟩
end Go.Proofs.YtdjnkdelmmpleaaGreat

namespace Go.Proofs.YtdjnkdelmmpleaaGreat
open Go.RowKit Go.Proofs.Tryz


def Wb.all (p : Wb) : Nat := 2 ^ p.es.length - 1
def Wb.u (p : Wb) : Sp := (p.ul, p.uh)
end Go.Proofs.YtdjnkdelmmpleaaGreat
