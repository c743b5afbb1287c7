/-
  LAW: SettleRests, walked: all.
-/
import Derived.Test.YtfjfkaaflghaiaaGk
namespace Go.Proofs.Ytfjfkaaflghaiaa
open Go.RowKit Go.Proofs.Try
attribute [local irreducible] Run wpK


def bq (b : Bool) : Bool := b
set_option maxRecDepth 100000 in
theorem inside_any (x : Int) (s : Sp) (w : World)  : Calls Try.prog 25 #[.int .i64 x, .agg #[.int .i64 s.1, .int .i64 s.2]] w (RetB (inB x s) w) := by
  refine calls_run (fn := f25) (c := (f25.body).getD .skip) [.int .i64 x, .agg #[.int .i64 s.1, .int .i64 s.2]] func25 (by kernel_rfl) (fun _ => False) [] (fun _ h => by cases h) (List.Pairwise.nil) 15 (by kernel_rfl) (by simp) ?_
  refine run_auto [] 2 [] [] [0, 1] [] (st' := ⟨[(0, iV x), (1, .agg #[iV s.1, iV s.2])], []⟩) (acc := []) (by kernel_rfl) (by kernel_rfl) trivial ?_
  refine run_new (aO #[iV s.1, iV s.2] 23) (fun b1 => pA b1) (some 3) (fun _ => by kernel_rfl) (fun b1 hb1 => ?_)
  cases hd1 : (decide (s.1 ≤ x)) with
  | false =>
    have hp1 := of_decide_eq_false hd1
    refine run_auto [(8, .bool false)] 16 [] [0] [4] [] (st' := ⟨[(4, .bool false)], []⟩) (acc := [(.bool (decide (s.1 ≤ x)), .bool false), (pA b1, pA b1)]) (by kernel_rfl) (by kernel_rfl) ⟨(bo hd1), rfl, trivial⟩ ?_
    refine run_end (fn := f25) rfl (Nat.le_refl _) (by kernel_rfl) [] [.bool false] (e := []) (by kernel_rfl) trivial (fun w1 k1 h1 => ?_)
    exact ⟨by simp only [resVal]; congr 2; simp only [inB]; simp; omega, k1.keeps (fun _ h => h)⟩
  | true =>
    have hp1 := of_decide_eq_true hd1
    cases hd2 : (decide (x ≤ s.2)) with
    | false =>
      have hp2 := of_decide_eq_false hd2
      refine run_auto [(8, .bool true), (13, .bool false)] 16 [] [0, 0] [4] [] (st' := ⟨[(4, .bool false)], []⟩) (acc := [(.bool (decide (x ≤ s.2)), .bool false), (pA b1, pA b1), (.bool (decide (s.1 ≤ x)), .bool true), (pA b1, pA b1)]) (by kernel_rfl) (by kernel_rfl) ⟨(bo hd2), rfl, (bo hd1), rfl, trivial⟩ ?_
      refine run_end (fn := f25) rfl (Nat.le_refl _) (by kernel_rfl) [] [.bool false] (e := []) (by kernel_rfl) trivial (fun w1 k1 h1 => ?_)
      exact ⟨by simp only [resVal]; congr 2; simp only [inB]; simp; omega, k1.keeps (fun _ h => h)⟩
    | true =>
      have hp2 := of_decide_eq_true hd2
      refine run_auto [(8, .bool true), (13, .bool true)] 16 [] [0, 0] [4] [] (st' := ⟨[(4, .bool true)], []⟩) (acc := [(.bool (decide (x ≤ s.2)), .bool true), (pA b1, pA b1), (.bool (decide (s.1 ≤ x)), .bool true), (pA b1, pA b1)]) (by kernel_rfl) (by kernel_rfl) ⟨(bo hd2), rfl, (bo hd1), rfl, trivial⟩ ?_
      refine run_end (fn := f25) rfl (Nat.le_refl _) (by kernel_rfl) [] [.bool true] (e := []) (by kernel_rfl) trivial (fun w1 k1 h1 => ?_)
      exact ⟨by simp only [resVal]; congr 2; simp only [inB]; simp; omega, k1.keeps (fun _ h => h)⟩

end Go.Proofs.Ytfjfkaaflghaiaa
