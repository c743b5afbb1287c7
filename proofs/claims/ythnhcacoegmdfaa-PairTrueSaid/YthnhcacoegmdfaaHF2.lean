/-
  LAW: PairShows.
-/
import Derived.Test.YthnhcacoegmdfaaGj
namespace Go.Proofs.Ythnhcacoegmdfaa
open Go.RowKit Go.Proofs.Try


theorem Pr.Fine.okB {p : Pr} (h : p.Fine) : p.ok = true := by
  unfold Pr.ok vBls vRds
  rw [all_yes (p := fun s => inS s.1 s.2 (-20) 20) (d := (0, 0)) (fun j hj => by have := h.bl j hj; unfold elB at this; unfold inS; exact decide_eq_true this),
    all_yes (p := vRd p.bs.length) (d := (0, 0, 0, 0, 0)) (fun j hj => by
      have := h.rd j hj
      unfold elR at this
      unfold vRd blkB minB inS
      simp only [Bool.and_eq_true, decide_eq_true_eq, Bool.not_eq_true', beq_eq_false_iff_ne]
      exact ⟨⟨⟨⟨this.1, this.2.1⟩, this.2.2.1⟩, this.2.2.2.1⟩, this.2.2.2.2⟩)]
  have h1 := h.b1
  have h2 := h.b5
  have h3 := h.r8
  have h4 := h.z
  have h5 := h.r
  have h6 := h.zw
  have h7 := h.rw_
  unfold inS
  simp only [Bool.and_eq_true, decide_eq_true_eq, and_true]
  exact ⟨⟨⟨⟨⟨⟨h1, h2⟩, h4⟩, h6⟩, h5⟩, h7⟩, h3⟩
/-- What is known, of the comparators that come before the j-th of the i-th zero. -/
def kn2 (p : Pr) (i j : Nat) : List ((Int × Int) × Gp) := (pre2 (fun (i j : Nat) => ((p.zlo + (i : Int), p.rlo + (j : Int)) : Int × Int)) p.nr i j).filterMap fun c => (p.n.left c).map fun g => (c, g)
def hA (p : Pr) (m : Int) (i j : Nat) : Int × Int := hullS (99, -99) ((kn2 p i j).map fun k => (shw k.1 m, shw k.1 m))
def hB (p : Pr) (i j : Nat) : Int × Int := hullS (99, -99) ((kn2 p i j).map fun k => (k.1.1, k.1.1))
end Go.Proofs.Ythnhcacoegmdfaa
