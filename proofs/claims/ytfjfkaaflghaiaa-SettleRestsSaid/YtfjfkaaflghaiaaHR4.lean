/-
  LAW: SettleRests, walked: all.
-/
import Derived.Test.YtfjfkaaflghaiaaHR2
namespace Go.Proofs.Ytfjfkaaflghaiaa
open Go.RowKit Go.Proofs.Try
attribute [local irreducible] Run wpK


def bq (b : Bool) : Bool := b
set_option maxRecDepth 100000 in
theorem inside_any (x : Int) (s : Sp) (w : World)  : Calls Try.prog 25 #[.int .i64 x, .agg #[.int .i64 s.1, .int .i64 s.2]] w (RetB (inB x s) w) := by
  refine calls_run (fn := f25) (c := (f25.body).getD .skip) [.int .i64 x, .agg #[.int .i64 s.1, .int .i64 s.2]] func25 (by kernel_rfl) (fun _ => False) [] (fun _ h => by cases h) (List.Pairwise.nil) 15 (by kernel_rfl) (by simp) ?_
  refine run_auto [] 2 [] [] [0, 1] [] (st' := ⟨[(0, iV x), (1, .agg #[iV s.1, iV s.2])], []⟩) (acc := []) (by kernel_rfl) (by kernel_rfl) trivial ?_
  refine run_new (aO #[iV s.1, iV s.2] 23) (fun b1 => pA b1) (some 3) (fun _ => by kernel_rfl) (fun b1 hb1 => ?_)
  cases hd1 : (decide (s.1 ≤ x)) with
  | false =>
    have hp1 := of_decide_eq_false hd1
    refine run_auto [(8, .bool false)] 16 [] [0] [4] [] (st' := ⟨[(4, .bool false)], []⟩) (acc := [(.bool (decide (s.1 ≤ x)), .bool false), (pA b1, pA b1)]) (by kernel_rfl) (by kernel_rfl) ⟨(bo hd1), rfl, trivial⟩ ?_
    refine run_end (fn := f25) rfl (Nat.le_refl _) (by kernel_rfl) [] [.bool false] (e := []) (by kernel_rfl) trivial (fun w1 k1 h1 => ?_)
    exact ⟨by simp only [resVal]; congr 2; simp only [inB]; simp; omega, k1.keeps (fun _ h => h)⟩
  | true =>
    have hp1 := of_decide_eq_true hd1
    cases hd2 : (decide (x ≤ s.2)) with
    | false =>
      have hp2 := of_decide_eq_false hd2
      refine run_auto [(8, .bool true), (13, .bool false)] 16 [] [0, 0] [4] [] (st' := ⟨[(4, .bool false)], []⟩) (acc := [(.bool (decide (x ≤ s.2)), .bool false), (pA b1, pA b1), (.bool (decide (s.1 ≤ x)), .bool true), (pA b1, pA b1)]) (by kernel_rfl) (by kernel_rfl) ⟨(bo hd2), rfl, (bo hd1), rfl, trivial⟩ ?_
      refine run_end (fn := f25) rfl (Nat.le_refl _) (by kernel_rfl) [] [.bool false] (e := []) (by kernel_rfl) trivial (fun w1 k1 h1 => ?_)
      exact ⟨by simp only [resVal]; congr 2; simp only [inB]; simp; omega, k1.keeps (fun _ h => h)⟩
    | true =>
      have hp2 := of_decide_eq_true hd2
      refine run_auto [(8, .bool true), (13, .bool true)] 16 [] [0, 0] [4] [] (st' := ⟨[(4, .bool true)], []⟩) (acc := [(.bool (decide (x ≤ s.2)), .bool true), (pA b1, pA b1), (.bool (decide (s.1 ≤ x)), .bool true), (pA b1, pA b1)]) (by kernel_rfl) (by kernel_rfl) ⟨(bo hd2), rfl, (bo hd1), rfl, trivial⟩ ?_
      refine run_end (fn := f25) rfl (Nat.le_refl _) (by kernel_rfl) [] [.bool true] (e := []) (by kernel_rfl) trivial (fun w1 k1 h1 => ?_)
      exact ⟨by simp only [resVal]; congr 2; simp only [inB]; simp; omega, k1.keeps (fun _ h => h)⟩

set_option maxRecDepth 100000 in
set_option maxHeartbeats 4000000 in
theorem rests30 (p : Sb) (bw : Nat) (av ae : Int) (w : World) (hp : p.In w) (hok : p.n.ok = true) (hav : inA (allR p.n) = av) (hae : erA (allR p.n) = ae) : Run { P := Try.prog, lo := w.heap.size, rd := none, n := 2, M := fun _ => False, B := w, N := 266, Q := bodyPostM Fence.wide 2 Try.prog f6 (RetB true w) } [.code (cAt [true, true, true, true, true, true, true, true, true, false] ((f6.body).getD .skip)), .code (cAt [true, true, true, true, true, true, true, true, true, true] ((f6.body).getD .skip))] ⟨[(2, pA bw), (10, iV av), (11, iV ae)], [(bw, aO #[.slice p.ba p.bs.length p.bc, iV p.near, iV p.last, .slice p.ta p.ts.length p.tc] 33)]⟩ := by
  have hF := Sn.fine hok
  have hn1 : 1 ≤ p.bs.length := hF.n1
  have hn4 : p.bs.length ≤ 4 := hF.n4
  obtain ⟨hal1, hal2, hal3⟩ := all_is hok hav hae
  refine run_auto [] 13 [] [0] [2, 10, 11, 21, 22, 231, 232] [0] (st' := ⟨[(2, pA bw), (10, iV av), (11, iV ae), (21, iV 0), (22, .bool true), (231, iV (p.bs.length : Int)), (232, iV 0)], [(bw, aO #[.slice p.ba p.bs.length p.bc, iV p.near, iV p.last, .slice p.ta p.ts.length p.tc] 33)]⟩) (acc := [(pA bw, pA bw)]) (by kernel_rfl) (by kernel_rfl) ⟨rfl, trivial⟩ ?_
  refine run_auto [] 0 [] [] [2, 10, 11, 21, 22, 231, 232] [0] (st' := ⟨[(2, pA bw), (10, iV av), (11, iV ae), (21, iV 0), (22, .bool true), (231, iV (p.bs.length : Int)), (232, iV 0)], [(bw, aO #[.slice p.ba p.bs.length p.bc, iV p.near, iV p.last, .slice p.ta p.ts.length p.tc] 33)]⟩) (acc := []) (by kernel_rfl) (by kernel_rfl) trivial ?_
  refine run_loop (S := fun (v : Nat × Bool) => ⟨[(2, pA bw), (10, iV av), (11, iV ae), (21, iV (mxW p.n v.1)), (22, .bool (bq v.2)), (231, iV (p.bs.length : Int)), (232, iV (v.1 : Int))], [(bw, aO #[.slice p.ba p.bs.length p.bc, iV p.near, iV p.last, .slice p.ta p.ts.length p.tc] 33)]⟩) (fun v => v.1 ≤ p.bs.length ∧ bq v.2 = smW p.n v.1) (fun v => p.bs.length - v.1) ((0, true)) (by kernel_rfl) (⟨Nat.zero_le _, rfl⟩) (by kernel_rfl) (fun v hI2 J2 hJ2 => ?_)
  obtain ⟨i, sm⟩ := v
  obtain ⟨hC1, hC2⟩ := hI2
  dsimp only at hC1 hC2
  cases hd1 : (decide ((i : Int) < (p.bs.length : Int))) with
  | false =>
    have hp1 := of_decide_eq_false hd1
    have hie : i = p.bs.length := by omega
    have hz : (ae == 0) = bq sm := hal1.trans (by rw [hC2, hie]; rfl)
    have hal4 : ae = 0 → av = mxW p.n i := by rw [hie]; exact hal2
    cases hd2 : (ae == 0) with
    | false =>
      have hp2 : ¬ ae = 0 := by simpa using hd2
      cases hd3 : (bq sm) with
      | false =>
        cases hd4 : (ae != 0) with
        | false =>
          have hp4 : ae = 0 := by simpa using hd4
          cases hd5 : (av == (mxW p.n i)) with
          | false =>
            have hp5 : ¬ av = (mxW p.n i) := by simpa using hd5
            refine run_auto [(233, .bool false), (251, .bool false), (253, .bool true), (256, .bool false), (260, .bool false)] 27 [false] [] [4] [] (st' := ⟨[(4, .bool false)], []⟩) (acc := [(.bool (av == (mxW p.n i)), .bool false), (.bool (ae != 0), .bool false), (.bool true, .bool true), (.bool (ae == 0), .bool false), (.bool false, .bool false), (.bool (decide ((i : Int) < (p.bs.length : Int))), .bool false)]) (by kernel_rfl) (by kernel_rfl) ⟨(bo hd5), (bo hd4), rfl, (bo hd2), rfl, (bo hd1), trivial⟩ ?_
            refine run_end (fn := f6) rfl (Nat.le_refl _) (by kernel_rfl) [] [.bool false] (e := []) (by kernel_rfl) trivial (fun w1 k1 h1 => ?_)
            exfalso
            omega
          | true =>
            have hp5 : av = (mxW p.n i) := by simpa using hd5
            refine run_auto [(233, .bool false), (251, .bool false), (253, .bool true), (256, .bool false), (260, .bool true)] 23 [false] [] [263] [] (st' := ⟨[(263, .bool true)], []⟩) (acc := [(.bool (av == (mxW p.n i)), .bool true), (.bool (ae != 0), .bool false), (.bool true, .bool true), (.bool (ae == 0), .bool false), (.bool false, .bool false), (.bool (decide ((i : Int) < (p.bs.length : Int))), .bool false)]) (by kernel_rfl) (by kernel_rfl) ⟨(bo hd5), (bo hd4), rfl, (bo hd2), rfl, (bo hd1), trivial⟩ ?_
            refine run_ret1 19 #[] (some 264) (.bool true) (by kernel_rfl) (fun w1 k1 h1 => alive_any w1) ?_
            refine run_auto [] 3 [] [] [4] [] (st' := ⟨[(4, .bool true)], []⟩) (acc := []) (by kernel_rfl) (by kernel_rfl) trivial ?_
            refine run_end (fn := f6) rfl (Nat.le_refl _) (by kernel_rfl) [] [.bool true] (e := []) (by kernel_rfl) trivial (fun w1 k1 h1 => ?_)
            exact ⟨rfl, k1.keeps (fun _ h => h)⟩
        | true =>
          have hp4 : ¬ ae = 0 := by simpa using hd4
          refine run_auto [(233, .bool false), (251, .bool false), (253, .bool true), (256, .bool true)] 23 [false] [] [263] [] (st' := ⟨[(263, .bool true)], []⟩) (acc := [(.bool (ae != 0), .bool true), (.bool true, .bool true), (.bool (ae == 0), .bool false), (.bool false, .bool false), (.bool (decide ((i : Int) < (p.bs.length : Int))), .bool false)]) (by kernel_rfl) (by kernel_rfl) ⟨(bo hd4), rfl, (bo hd2), rfl, (bo hd1), trivial⟩ ?_
          refine run_ret1 19 #[] (some 264) (.bool true) (by kernel_rfl) (fun w1 k1 h1 => alive_any w1) ?_
          refine run_auto [] 3 [] [] [4] [] (st' := ⟨[(4, .bool true)], []⟩) (acc := []) (by kernel_rfl) (by kernel_rfl) trivial ?_
          refine run_end (fn := f6) rfl (Nat.le_refl _) (by kernel_rfl) [] [.bool true] (e := []) (by kernel_rfl) trivial (fun w1 k1 h1 => ?_)
          exact ⟨rfl, k1.keeps (fun _ h => h)⟩
      | true =>
        rw [hd2, hd3] at hz
        cases hz
    | true =>
      have hp2 : ae = 0 := by simpa using hd2
      cases hd3 : (bq sm) with
      | false =>
        rw [hd2, hd3] at hz
        cases hz
      | true =>
        cases hd4 : (ae != 0) with
        | false =>
          have hp4 : ae = 0 := by simpa using hd4
          cases hd5 : (av == (mxW p.n i)) with
          | false =>
            have hp5 : ¬ av = (mxW p.n i) := by simpa using hd5
            refine run_auto [(233, .bool false), (251, .bool true), (253, .bool true), (256, .bool false), (260, .bool false)] 27 [false] [] [4] [] (st' := ⟨[(4, .bool false)], []⟩) (acc := [(.bool (av == (mxW p.n i)), .bool false), (.bool (ae != 0), .bool false), (.bool true, .bool true), (.bool (ae == 0), .bool true), (.bool false, .bool false), (.bool (decide ((i : Int) < (p.bs.length : Int))), .bool false)]) (by kernel_rfl) (by kernel_rfl) ⟨(bo hd5), (bo hd4), rfl, (bo hd2), rfl, (bo hd1), trivial⟩ ?_
            refine run_end (fn := f6) rfl (Nat.le_refl _) (by kernel_rfl) [] [.bool false] (e := []) (by kernel_rfl) trivial (fun w1 k1 h1 => ?_)
            exfalso
            omega
          | true =>
            have hp5 : av = (mxW p.n i) := by simpa using hd5
            refine run_auto [(233, .bool false), (251, .bool true), (253, .bool true), (256, .bool false), (260, .bool true)] 23 [false] [] [263] [] (st' := ⟨[(263, .bool true)], []⟩) (acc := [(.bool (av == (mxW p.n i)), .bool true), (.bool (ae != 0), .bool false), (.bool true, .bool true), (.bool (ae == 0), .bool true), (.bool false, .bool false), (.bool (decide ((i : Int) < (p.bs.length : Int))), .bool false)]) (by kernel_rfl) (by kernel_rfl) ⟨(bo hd5), (bo hd4), rfl, (bo hd2), rfl, (bo hd1), trivial⟩ ?_
            refine run_ret1 19 #[] (some 264) (.bool true) (by kernel_rfl) (fun w1 k1 h1 => alive_any w1) ?_
            refine run_auto [] 3 [] [] [4] [] (st' := ⟨[(4, .bool true)], []⟩) (acc := []) (by kernel_rfl) (by kernel_rfl) trivial ?_
            refine run_end (fn := f6) rfl (Nat.le_refl _) (by kernel_rfl) [] [.bool true] (e := []) (by kernel_rfl) trivial (fun w1 k1 h1 => ?_)
            exact ⟨rfl, k1.keeps (fun _ h => h)⟩
        | true =>
          have hp4 : ¬ ae = 0 := by simpa using hd4
          refine run_auto [(233, .bool false), (251, .bool true), (253, .bool true), (256, .bool true)] 23 [false] [] [263] [] (st' := ⟨[(263, .bool true)], []⟩) (acc := [(.bool (ae != 0), .bool true), (.bool true, .bool true), (.bool (ae == 0), .bool true), (.bool false, .bool false), (.bool (decide ((i : Int) < (p.bs.length : Int))), .bool false)]) (by kernel_rfl) (by kernel_rfl) ⟨(bo hd4), rfl, (bo hd2), rfl, (bo hd1), trivial⟩ ?_
          refine run_ret1 19 #[] (some 264) (.bool true) (by kernel_rfl) (fun w1 k1 h1 => alive_any w1) ?_
          refine run_auto [] 3 [] [] [4] [] (st' := ⟨[(4, .bool true)], []⟩) (acc := []) (by kernel_rfl) (by kernel_rfl) trivial ?_
          refine run_end (fn := f6) rfl (Nat.le_refl _) (by kernel_rfl) [] [.bool true] (e := []) (by kernel_rfl) trivial (fun w1 k1 h1 => ?_)
          exact ⟨rfl, k1.keeps (fun _ h => h)⟩
  | true =>
    have hp1 := of_decide_eq_true hd1
    have hil : i < p.bs.length := by omega
    have hwb := wh_bd hok (i := i) hil
    have hmb := mxW_bd hok (i := i) (Nat.le_of_lt hil)
    refine run_auto [(233, .bool true)] 18 [true] [0] [2, 10, 11, 21, 22, 231, 232, 236, 237] [0] (st' := ⟨[(2, pA bw), (10, iV av), (11, iV ae), (21, iV (mxW p.n i)), (22, .bool (bq sm)), (231, iV (p.bs.length : Int)), (232, iV (i : Int)), (236, .agg #[.slice p.ba p.bs.length p.bc, iV p.near, iV p.last, .slice p.ta p.ts.length p.tc]), (237, iV (i : Int))], [(bw, aO #[.slice p.ba p.bs.length p.bc, iV p.near, iV p.last, .slice p.ta p.ts.length p.tc] 33)]⟩) (acc := [(pA bw, pA bw), (.bool true, .bool true), (.bool (decide ((i : Int) < (p.bs.length : Int))), .bool true)]) (by kernel_rfl) (by kernel_rfl) ⟨rfl, rfl, (bo hd1), trivial⟩ ?_
    refine run_ret1 15 #[.agg #[.slice p.ba p.bs.length p.bc, iV p.near, iV p.last, .slice p.ta p.ts.length p.tc], iV (i : Int)] (some 238) (.tuple #[iV (inA (whenR p.n (i : Int))), iV (erA (whenR p.n (i : Int)))]) (by kernel_rfl) (fun w1 k1 h1 => When_any p (i : Int) w1 (hp.keep (k1.keeps (fun _ h => h)))) ?_
    cases hd2 : (bq sm) with
    | false =>
      refine run_auto [(243, iV (max (mxW p.n i) (inA (whenR p.n (i : Int))))), (249, iV ((i + 1 : Nat) : Int))] 23 [] [] [2, 10, 11, 21, 22, 231, 232] [0] (st' := ⟨[(2, pA bw), (10, iV av), (11, iV ae), (21, iV (max (mxW p.n i) (inA (whenR p.n (i : Int))))), (22, .bool false), (231, iV (p.bs.length : Int)), (232, iV ((i + 1 : Nat) : Int))], [(bw, aO #[.slice p.ba p.bs.length p.bc, iV p.near, iV p.last, .slice p.ta p.ts.length p.tc] 33)]⟩) (acc := [(iV (IntKind.i64.wrap ((i : Int) + 1)), iV ((i + 1 : Nat) : Int)), (iV (if (inA (whenR p.n (i : Int))) > (mxW p.n i) then (inA (whenR p.n (i : Int))) else (mxW p.n i)), iV (max (mxW p.n i) (inA (whenR p.n (i : Int)))))]) (by kernel_rfl) (by kernel_rfl) ⟨(wr (by omega) (by omega)), (mx _ _ _), trivial⟩ ?_
      exact run_round (by kernel_rfl) (hJ2 ((i + 1, false)) (⟨by dsimp only; omega, by show false = (smW p.n i && erA (whenR p.n (i : Int)) == 0); rw [← hC2, hd2]; rfl⟩) (by dsimp only; omega))
    | true =>
      cases hd3 : ((erA (whenR p.n (i : Int))) == 0) with
      | false =>
        have hp3 : ¬ (erA (whenR p.n (i : Int))) = 0 := by simpa using hd3
        refine run_auto [(243, iV (max (mxW p.n i) (inA (whenR p.n (i : Int))))), (247, .bool false), (249, iV ((i + 1 : Nat) : Int))] 23 [] [] [2, 10, 11, 21, 22, 231, 232] [0] (st' := ⟨[(2, pA bw), (10, iV av), (11, iV ae), (21, iV (max (mxW p.n i) (inA (whenR p.n (i : Int))))), (22, .bool false), (231, iV (p.bs.length : Int)), (232, iV ((i + 1 : Nat) : Int))], [(bw, aO #[.slice p.ba p.bs.length p.bc, iV p.near, iV p.last, .slice p.ta p.ts.length p.tc] 33)]⟩) (acc := [(iV (IntKind.i64.wrap ((i : Int) + 1)), iV ((i + 1 : Nat) : Int)), (.bool ((erA (whenR p.n (i : Int))) == 0), .bool false), (iV (if (inA (whenR p.n (i : Int))) > (mxW p.n i) then (inA (whenR p.n (i : Int))) else (mxW p.n i)), iV (max (mxW p.n i) (inA (whenR p.n (i : Int)))))]) (by kernel_rfl) (by kernel_rfl) ⟨(wr (by omega) (by omega)), (bo hd3), (mx _ _ _), trivial⟩ ?_
        exact run_round (by kernel_rfl) (hJ2 ((i + 1, false)) (⟨by dsimp only; omega, by show false = (smW p.n i && erA (whenR p.n (i : Int)) == 0); rw [← hC2, hd2, hd3]; rfl⟩) (by dsimp only; omega))
      | true =>
        have hp3 : (erA (whenR p.n (i : Int))) = 0 := by simpa using hd3
        refine run_auto [(243, iV (max (mxW p.n i) (inA (whenR p.n (i : Int))))), (247, .bool true), (249, iV ((i + 1 : Nat) : Int))] 23 [] [] [2, 10, 11, 21, 22, 231, 232] [0] (st' := ⟨[(2, pA bw), (10, iV av), (11, iV ae), (21, iV (max (mxW p.n i) (inA (whenR p.n (i : Int))))), (22, .bool true), (231, iV (p.bs.length : Int)), (232, iV ((i + 1 : Nat) : Int))], [(bw, aO #[.slice p.ba p.bs.length p.bc, iV p.near, iV p.last, .slice p.ta p.ts.length p.tc] 33)]⟩) (acc := [(iV (IntKind.i64.wrap ((i : Int) + 1)), iV ((i + 1 : Nat) : Int)), (.bool ((erA (whenR p.n (i : Int))) == 0), .bool true), (iV (if (inA (whenR p.n (i : Int))) > (mxW p.n i) then (inA (whenR p.n (i : Int))) else (mxW p.n i)), iV (max (mxW p.n i) (inA (whenR p.n (i : Int)))))]) (by kernel_rfl) (by kernel_rfl) ⟨(wr (by omega) (by omega)), (bo hd3), (mx _ _ _), trivial⟩ ?_
        exact run_round (by kernel_rfl) (hJ2 ((i + 1, true)) (⟨by dsimp only; omega, by show true = (smW p.n i && erA (whenR p.n (i : Int)) == 0); rw [← hC2, hd2, hd3]; rfl⟩) (by dsimp only; omega))

end Go.Proofs.Ytfjfkaaflghaiaa
