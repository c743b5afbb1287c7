/-
  LAW: PairShows.
-/
import Derived.Test.YtmiobcnccbfknaaGj
namespace Go.Proofs.Ytmiobcnccbfknaa
open Go.RowKit Go.Proofs.Try


theorem Pr.Fine.okB {p : Pr} (h : p.Fine) : p.ok = true := by
  unfold Pr.ok vBls vRds
  rw [all_yes (p := fun s => inS s.1 s.2 (-20) 20) (d := (0, 0)) (fun j hj => by have := h.bl j hj; unfold elB at this; unfold inS; exact decide_eq_true this),
    all_yes (p := vRd p.bs.length) (d := (0, 0, 0, 0, 0)) (fun j hj => by
      have := h.rd j hj
      unfold elR at this
      unfold vRd blkB minB inS
      simp only [Bool.and_eq_true, decide_eq_true_eq, Bool.not_eq_true', beq_eq_false_iff_ne]
      exact ⟨⟨⟨⟨this.1, this.2.1⟩, this.2.2.1⟩, this.2.2.2.1⟩, this.2.2.2.2⟩)]
  have h1 := h.b1
  have h2 := h.b5
  have h3 := h.r8
  have h4 := h.z
  have h5 := h.r
  have h6 := h.zw
  have h7 := h.rw_
  unfold inS
  simp only [Bool.and_eq_true, decide_eq_true_eq, and_true]
  exact ⟨⟨⟨⟨⟨⟨h1, h2⟩, h4⟩, h6⟩, h5⟩, h7⟩, h3⟩
/-- What is known, of the comparators that come before the j-th of the i-th zero. -/
def kn2 (p : Pr) (i j : Nat) : List ((Int × Int) × Gp) := (pre2 (fun (i j : Nat) => ((p.zlo + (i : Int), p.rlo + (j : Int)) : Int × Int)) p.nr i j).filterMap fun c => (p.n.left c).map fun g => (c, g)
def hA (p : Pr) (m : Int) (i j : Nat) : Int × Int := hullS (99, -99) ((kn2 p i j).map fun k => (shw k.1 m, shw k.1 m))
def hB (p : Pr) (i j : Nat) : Int × Int := hullS (99, -99) ((kn2 p i j).map fun k => (k.1.1, k.1.1))
theorem hull_add (s : Int × Int) (l : List (Int × Int)) (t : Int × Int) : hullS s (l ++ [t]) = (min (hullS s l).1 t.1, max (hullS s l).2 t.2) := by
  unfold hullS
  rw [List.foldl_append]
  rfl
theorem neq_span (X Y : Operand) (x0 x1 y0 y1 : Int) (w : World) : ((do eqGuard .neq 23 X Y (.agg #[.int .i64 x0, .int .i64 x1]) (.agg #[.int .i64 y0, .int .i64 y1]); binOp .neq 23 (.agg #[.int .i64 x0, .int .i64 x1]) (.agg #[.int .i64 y0, .int .i64 y1])) >>= fun v => pure (Next.value v)).run Try.prog w = .ok (.value (.bool (!(x0 == y0 && x1 == y1)))) w := by
  have h := eql_span X Y x0 x1 y0 y1 w
  have hg1 := run_eqGuard_agg (P := Try.prog) (w := w) .eql 23 X Y #[.int .i64 x0, .int .i64 x1] #[.int .i64 y0, .int .i64 y1] (by kernel_rfl)
  have hg2 := run_eqGuard_agg (P := Try.prog) (w := w) .neq 23 X Y #[.int .i64 x0, .int .i64 x1] #[.int .i64 y0, .int .i64 y1] (by kernel_rfl)
  simp only [binOp] at h ⊢
  simp only [Sem.run_bind, hg1, Result.andThen] at h
  simp only [Sem.run_bind, hg2, Result.andThen]
  cases hx : (Op.equal 23 (.agg #[.int .i64 x0, .int .i64 x1]) (.agg #[.int .i64 y0, .int .i64 y1])).run Try.prog w with
  | ok v w' =>
    rw [hx] at h
    simp [Sem.run_pure] at h ⊢
    exact ⟨by rw [h.1], h.2⟩
  | halt x w' => rw [hx] at h; cases h
end Go.Proofs.Ytmiobcnccbfknaa
