/-
  LAW: SettleNames, walked.
-/
import Derived.Test.YtfjfkaaflghaiaaGg
import Derived.Test.YtfjfkaaflghaiaaGb
namespace Go.Proofs.Ytfjfkaaflghaiaa
open Go.RowKit Go.Proofs.Try
attribute [local irreducible] Run wpK

set_option maxRecDepth 100000 in
theorem settleNames_any  (w : World)  : Calls Try.prog 3 #[] w (RetB true w) := by
  refine calls_run (fn := f3) (c := (f3.body).getD .skip) [] func3 (by kernel_rfl) (fun _ => False) [] (fun _ h => by cases h) (List.Pairwise.nil) 159 (by kernel_rfl) (by simp) ?_
  refine run_auto [] 7 [] [] [0] [] (st' := ⟨[(0, .bool false)], []⟩) (acc := []) (by kernel_rfl) (by kernel_rfl) trivial ?_
  refine run_ret1 10 #[iV 12, iV 13] (some 21) (.agg #[iV 12, iV 13]) (by kernel_rfl) (fun w1 k1 h1 => span_any 12 13 w1) ?_
  refine run_auto [] 1 [] [] [0, 22] [] (st' := ⟨[(0, .bool false), (22, .agg #[iV 0, iV 4, iV 12, iV 13])], []⟩) (acc := []) (by kernel_rfl) (by kernel_rfl) trivial ?_
  refine run_ret1 10 #[iV 4, iV 4] (some 23) (.agg #[iV 4, iV 4]) (by kernel_rfl) (fun w1 k1 h1 => span_any 4 4 w1) ?_
  refine run_auto [] 1 [] [] [0, 22, 24] [] (st' := ⟨[(0, .bool false), (22, .agg #[iV 0, iV 4, iV 12, iV 13]), (24, .agg #[iV 0, iV 7, iV 4, iV 4])], []⟩) (acc := []) (by kernel_rfl) (by kernel_rfl) trivial ?_
  refine run_ret1 10 #[iV (-4), iV (-2)] (some 25) (.agg #[iV (-4), iV (-2)]) (by kernel_rfl) (fun w1 k1 h1 => span_any (-4) (-2) w1) ?_
  refine run_auto [] 1 [] [] [0, 22, 24, 26] [] (st' := ⟨[(0, .bool false), (22, .agg #[iV 0, iV 4, iV 12, iV 13]), (24, .agg #[iV 0, iV 7, iV 4, iV 4]), (26, .agg #[iV 1, iV 1, iV (-4), iV (-2)])], []⟩) (acc := []) (by kernel_rfl) (by kernel_rfl) trivial ?_
  refine run_ret1 10 #[iV 8, iV 10] (some 27) (.agg #[iV 8, iV 10]) (by kernel_rfl) (fun w1 k1 h1 => span_any 8 10 w1) ?_
  refine run_auto [] 1 [] [] [0, 22, 24, 26, 28] [] (st' := ⟨[(0, .bool false), (22, .agg #[iV 0, iV 4, iV 12, iV 13]), (24, .agg #[iV 0, iV 7, iV 4, iV 4]), (26, .agg #[iV 1, iV 1, iV (-4), iV (-2)]), (28, .agg #[iV 1, iV 4, iV 8, iV 10])], []⟩) (acc := []) (by kernel_rfl) (by kernel_rfl) trivial ?_
  refine run_new (aO #[iV 0, iV 4, iV 12, iV 13, iV 0, iV 7, iV 4, iV 4, iV 1, iV 1, iV (-4), iV (-2), iV 1, iV 4, iV 8, iV 10] 25) (fun b1 => sV b1 4 4) (some 29) (fun _ => by kernel_rfl) (fun b1 hb1 => ?_)
  refine run_auto [] 4 [] [] [0, 29, 30, 31] [0] (st' := ⟨[(0, .bool false), (29, sV b1 4 4), (30, iV 4), (31, iV 0)], [(b1, aO #[iV 0, iV 4, iV 12, iV 13, iV 0, iV 7, iV 4, iV 4, iV 1, iV 1, iV (-4), iV (-2), iV 1, iV 4, iV 8, iV 10] 25)]⟩) (acc := []) (by kernel_rfl) (by kernel_rfl) trivial ?_
  refine run_auto [] 0 [] [] [0, 29, 30, 31] [0] (st' := ⟨[(0, .bool false), (29, sV b1 4 4), (30, iV 4), (31, iV 0)], [(b1, aO #[iV 0, iV 4, iV 12, iV 13, iV 0, iV 7, iV 4, iV 4, iV 1, iV 1, iV (-4), iV (-2), iV 1, iV 4, iV 8, iV 10] 25)]⟩) (acc := []) (by kernel_rfl) (by kernel_rfl) trivial ?_
  refine run_loop (S := fun (v : Nat) => match v with | 0 => ⟨[(0, .bool false), (29, sV b1 4 4), (30, iV 4), (31, iV 0)], [(b1, aO #[iV 0, iV 4, iV 12, iV 13, iV 0, iV 7, iV 4, iV 4, iV 1, iV 1, iV (-4), iV (-2), iV 1, iV 4, iV 8, iV 10] 25)]⟩ | 1 => ⟨[(0, .bool false), (29, sV b1 4 4), (30, iV 4), (31, iV 1)], [(b1, aO #[iV 0, iV 4, iV 12, iV 13, iV 0, iV 7, iV 4, iV 4, iV 1, iV 1, iV (-4), iV (-2), iV 1, iV 4, iV 8, iV 10] 25)]⟩ | 2 => ⟨[(0, .bool false), (29, sV b1 4 4), (30, iV 4), (31, iV 2)], [(b1, aO #[iV 0, iV 4, iV 12, iV 13, iV 0, iV 7, iV 4, iV 4, iV 1, iV 1, iV (-4), iV (-2), iV 1, iV 4, iV 8, iV 10] 25)]⟩ | 3 => ⟨[(0, .bool false), (29, sV b1 4 4), (30, iV 4), (31, iV 3)], [(b1, aO #[iV 0, iV 4, iV 12, iV 13, iV 0, iV 7, iV 4, iV 4, iV 1, iV 1, iV (-4), iV (-2), iV 1, iV 4, iV 8, iV 10] 25)]⟩ | _ => ⟨[(0, .bool false), (29, sV b1 4 4), (30, iV 4), (31, iV 4)], [(b1, aO #[iV 0, iV 4, iV 12, iV 13, iV 0, iV 7, iV 4, iV 4, iV 1, iV 1, iV (-4), iV (-2), iV 1, iV 4, iV 8, iV 10] 25)]⟩) (fun v => True) (fun v => 4 - v) (0) (by kernel_rfl) (trivial) (by kernel_rfl) (fun v hI0 J0 hJ0 => ?_)
  obtain _ | _ | _ | _ | v := v
  · skip
    refine run_auto [(32, .bool true)] 13 [true] [0] [0, 29, 30, 31, 34] [0] (st' := ⟨[(0, .bool false), (29, sV b1 4 4), (30, iV 4), (31, iV 0), (34, .agg #[iV 0, iV 4, iV 12, iV 13])], [(b1, aO #[iV 0, iV 4, iV 12, iV 13, iV 0, iV 7, iV 4, iV 4, iV 1, iV 1, iV (-4), iV (-2), iV 1, iV 4, iV 8, iV 10] 25)]⟩) (acc := [(pA b1, pA b1), (.bool true, .bool true), (.bool true, .bool true)]) (by kernel_rfl) (by kernel_rfl) ⟨rfl, rfl, rfl, trivial⟩ ?_
    refine run_new (aO #[iV 0, iV 0, iV 0, iV 0] 25) (fun b2 => pA b2) (some 2) (fun _ => by kernel_rfl) (fun b2 hb2 => ?_)
    refine run_auto [] 3 [] [0] [0, 29, 30, 31, 2] [0, 1] (st' := ⟨[(0, .bool false), (29, sV b1 4 4), (30, iV 4), (31, iV 0), (2, pA b2)], [(b2, aO #[iV 0, iV 4, iV 12, iV 13] 25), (b1, aO #[iV 0, iV 4, iV 12, iV 13, iV 0, iV 7, iV 4, iV 4, iV 1, iV 1, iV (-4), iV (-2), iV 1, iV 4, iV 8, iV 10] 25)]⟩) (acc := [(pA b2, pA b2)]) (by kernel_rfl) (by kernel_rfl) ⟨rfl, trivial⟩ ?_
    refine drawW 12 [{ names := [2, 500002], val := fun l => .agg #[.slice (some ⟨(l.getD 1 0), 0, none⟩) 2 2, iV 5, iV 12, .slice (some ⟨(l.getD 0 0), 0, none⟩) 1 1], upd := [(2, fun l => aO #[iV 1, iV 4, iV 8, iV 10] 61), (500002, fun l => aO #[iV 40, iV 44, iV 4, iV 4, iV 10, iV 12, iV (-6), iV (-5), iV 2, iV 3, iV 0, iV 0] 54)], news := [2, 500002] },
          { val := fun _ => pA b2, slots := [2] },
          { val := fun _ => iV 0, slots := [37], reads := [0] },
          { val := fun _ => .pointer (some ⟨b2, 1, none⟩), slots := [2] },
          { val := fun _ => iV 4, slots := [39], reads := [0] },
          { val := fun _ => .tuple #[.agg #[iV 12, iV 13], iV 0], slots := [36, 38, 40], reads := [500002, 2] },
          { val := fun _ => .tuple #[.agg #[iV 12, iV 13], iV 0], slots := [41] },
          { val := fun _ => .agg #[iV 12, iV 13], slots := [35] },
          { val := fun _ => iV 0, slots := [35] },
          { names := [11], val := fun l => .pointer (some ⟨(l.getD 0 0), 0, none⟩), upd := [(11, fun l => aO #[iV 0, iV 0] 23)], news := [11] },
          { upd := [(11, fun l => aO #[iV 12, iV 13] 23)], slots := [3, 42], reads := [11] },
          { val := fun _ => iV 0, slots := [43] }] [[], [], [1], [], [3], [0, 1, 2, 3, 4], [0, 1, 2, 3, 4, 5], [0, 1, 2, 3, 4, 5, 6], [0, 1, 2, 3, 4, 5, 6], [], [0, 1, 2, 3, 4, 5, 6, 7, 9], [0, 1, 2, 3, 4, 5, 6, 7, 8, 9, 10]] (by kernel_rfl) (by kernel_rfl) (by kernel_rfl) (by kernel_rfl) [0, 29, 30, 31, 2, 3, 4] [0, 1, 11] (by kernel_rfl)
          ⟨⟨⟨⟨⟨⟨⟨⟨⟨⟨⟨⟨trivial,
          tri_nw2 2 500002 rfl rfl (fun β nb_ nc_ => .agg #[sV nc_ 2 2, iV 5, iV 12, sV nb_ 1 1]) (fun β nb_ nc_ => aO #[iV 1, iV 4, iV 8, iV 10] 61) (fun β nb_ nc_ => aO #[iV 40, iV 44, iV 4, iV 4, iV 10, iV 12, iV (-6), iV (-5), iV 2, iV 3, iV 0, iV 0] 54) 12 (fun β => #[]) (by kernel_rfl) (fun β extra => by kernel_rfl) (fun β nb_ nc_ => rfl) (fun β nb_ nc_ => rfl) (fun β nb_ nc_ => by kernel_rfl) (fun β nb_ nc_ => by kernel_rfl) (fun β nb_ nc_ => by kernel_rfl) (fun β nb_ nc_ => by kernel_rfl) (fun β w1 k1 h1 => sample_any w1)⟩,
          tri_quietW (fun β => []) [] [] (fun β => []) (by kernel_rfl) (fun β extra => by kernel_rfl) (by kernel_rfl) (fun β => trivial)⟩,
          tri_quietW (fun β => []) [0] [0] (fun β => [(pA b2, pA b2)]) (by kernel_rfl) (fun β extra => by kernel_rfl) (by kernel_rfl) (fun β => ⟨rfl, trivial⟩)⟩,
          tri_quietW (fun β => []) [] [] (fun β => []) (by kernel_rfl) (fun β extra => by kernel_rfl) (by kernel_rfl) (fun β => trivial)⟩,
          tri_quietW (fun β => []) [0] [0] (fun β => [(pA b2, pA b2)]) (by kernel_rfl) (fun β extra => by kernel_rfl) (by kernel_rfl) (fun β => ⟨rfl, trivial⟩)⟩,
          tri_callVW (fun β => .tuple #[.agg #[iV 12, iV 13], iV 0]) (fun β => by kernel_rfl) 11 (fun β => #[.agg #[.slice (some ⟨(β 500002), 0, none⟩) 2 2, iV 5, iV 12, .slice (some ⟨(β 2), 0, none⟩) 1 1], iV 0, iV 4]) (by kernel_rfl) (fun β extra => by kernel_rfl) (fun β => by kernel_rfl) (fun β w1 k1 h1 => (by have h := Excess_any (smp (β 500002) (β 2)) 0 4 w1 (smp_in (by exact (h1 ((β 500002), aO #[iV 40, iV 44, iV 4, iV 4, iV 10, iV 12, iV (-6), iV (-5), iV 2, iV 3, iV 0, iV 0] 54) (List.mem_of_getElem? (i := 0) (by kernel_rfl)))) (by exact (h1 ((β 2), aO #[iV 1, iV 4, iV 8, iV 10] 61) (List.mem_of_getElem? (i := 1) (by kernel_rfl))))); rw [show excR (smp (β 500002) (β 2)).n 0 4 = .inr (12, 13) from by kernel_rfl] at h; exact h))⟩,
          tri_quietW (fun β => []) [] [] (fun β => []) (by kernel_rfl) (fun β extra => by kernel_rfl) (by kernel_rfl) (fun β => trivial)⟩,
          tri_quietW (fun β => []) [] [] (fun β => []) (by kernel_rfl) (fun β extra => by kernel_rfl) (by kernel_rfl) (fun β => trivial)⟩,
          tri_quietW (fun β => []) [] [] (fun β => []) (by kernel_rfl) (fun β extra => by kernel_rfl) (by kernel_rfl) (fun β => trivial)⟩,
          tri_newW 11 (fun β => aO #[iV 0, iV 0] 23) (fun β b => pA b) [0] (by kernel_rfl) (fun β extra b => by kernel_rfl) (by kernel_rfl) (fun β b => by kernel_rfl) (fun β b => by kernel_rfl) (fun β b => by kernel_rfl)⟩,
          tri_quietW (fun β => []) [0] [0] (fun β => [(.pointer (some ⟨(β 11), 0, none⟩), .pointer (some ⟨(β 11), 0, none⟩))]) (by kernel_rfl) (fun β extra => by kernel_rfl) (by kernel_rfl) (fun β => ⟨rfl, trivial⟩)⟩,
          tri_quietW (fun β => []) [] [] (fun β => []) (by kernel_rfl) (fun β extra => by kernel_rfl) (by kernel_rfl) (fun β => trivial)⟩
          (fun β => ⟨[(0, .bool false), (29, sV b1 4 4), (30, iV 4), (31, iV 0), (2, pA b2), (3, .pointer (some ⟨(β 11), 0, none⟩)), (4, iV 0)], [(b2, aO #[iV 0, iV 4, iV 12, iV 13] 25), (b1, aO #[iV 0, iV 4, iV 12, iV 13, iV 0, iV 7, iV 4, iV 4, iV 1, iV 1, iV (-4), iV (-2), iV 1, iV 4, iV 8, iV 10] 25), ((β 11), aO #[iV 12, iV 13] 23)]⟩) (fun β => by kernel_rfl) (fun β3 => ?_)
    refine run_auto [] 5 [] [2, 0] [0, 29, 30, 31, 4, 44, 46] [1] (st' := ⟨[(0, .bool false), (29, sV b1 4 4), (30, iV 4), (31, iV 0), (4, iV 0), (44, .agg #[iV 12, iV 13]), (46, .agg #[iV 12, iV 13])], [(b1, aO #[iV 0, iV 4, iV 12, iV 13, iV 0, iV 7, iV 4, iV 4, iV 1, iV 1, iV (-4), iV (-2), iV 1, iV 4, iV 8, iV 10] 25)]⟩) (acc := [(pA b2, pA b2), (.pointer (some ⟨(β3 11), 0, none⟩), .pointer (some ⟨(β3 11), 0, none⟩))]) (by kernel_rfl) (by kernel_rfl) ⟨rfl, rfl, trivial⟩ ?_
    refine run_v ((do eqGuard .neq 23 (.tmp 44) (.tmp 46) (.agg #[iV 12, iV 13]) (.agg #[iV 12, iV 13]); binOp .neq 23 (.agg #[iV 12, iV 13]) (.agg #[iV 12, iV 13])) >>= fun v => pure (Next.value v)) (some 47) (.bool false) (by kernel_rfl) (fun w1 k1 h1 => eq_span_ne (.tmp 44) (.tmp 46) 12 13 12 13 w1) ?_
    refine run_auto [(50, .bool false), (52, iV 1)] 12 [false] [] [0, 29, 30, 31] [0] (st' := ⟨[(0, .bool false), (29, sV b1 4 4), (30, iV 4), (31, iV 1)], [(b1, aO #[iV 0, iV 4, iV 12, iV 13, iV 0, iV 7, iV 4, iV 4, iV 1, iV 1, iV (-4), iV (-2), iV 1, iV 4, iV 8, iV 10] 25)]⟩) (acc := [(iV 1, iV 1), (.bool false, .bool false), (.bool false, .bool false)]) (by kernel_rfl) (by kernel_rfl) ⟨rfl, rfl, rfl, trivial⟩ ?_
    exact run_round (by kernel_rfl) (hJ0 (1) (trivial) (by omega))
  · skip
    refine run_auto [(32, .bool true)] 13 [true] [0] [0, 29, 30, 31, 34] [0] (st' := ⟨[(0, .bool false), (29, sV b1 4 4), (30, iV 4), (31, iV 1), (34, .agg #[iV 0, iV 7, iV 4, iV 4])], [(b1, aO #[iV 0, iV 4, iV 12, iV 13, iV 0, iV 7, iV 4, iV 4, iV 1, iV 1, iV (-4), iV (-2), iV 1, iV 4, iV 8, iV 10] 25)]⟩) (acc := [(pA b1, pA b1), (.bool true, .bool true), (.bool true, .bool true)]) (by kernel_rfl) (by kernel_rfl) ⟨rfl, rfl, rfl, trivial⟩ ?_
    refine run_new (aO #[iV 0, iV 0, iV 0, iV 0] 25) (fun b2 => pA b2) (some 2) (fun _ => by kernel_rfl) (fun b2 hb2 => ?_)
    refine run_auto [] 3 [] [0] [0, 29, 30, 31, 2] [0, 1] (st' := ⟨[(0, .bool false), (29, sV b1 4 4), (30, iV 4), (31, iV 1), (2, pA b2)], [(b2, aO #[iV 0, iV 7, iV 4, iV 4] 25), (b1, aO #[iV 0, iV 4, iV 12, iV 13, iV 0, iV 7, iV 4, iV 4, iV 1, iV 1, iV (-4), iV (-2), iV 1, iV 4, iV 8, iV 10] 25)]⟩) (acc := [(pA b2, pA b2)]) (by kernel_rfl) (by kernel_rfl) ⟨rfl, trivial⟩ ?_
    refine drawW 12 [{ names := [2, 500002], val := fun l => .agg #[.slice (some ⟨(l.getD 1 0), 0, none⟩) 2 2, iV 5, iV 12, .slice (some ⟨(l.getD 0 0), 0, none⟩) 1 1], upd := [(2, fun l => aO #[iV 1, iV 4, iV 8, iV 10] 61), (500002, fun l => aO #[iV 40, iV 44, iV 4, iV 4, iV 10, iV 12, iV (-6), iV (-5), iV 2, iV 3, iV 0, iV 0] 54)], news := [2, 500002] },
          { val := fun _ => pA b2, slots := [2] },
          { val := fun _ => iV 0, slots := [37], reads := [0] },
          { val := fun _ => .pointer (some ⟨b2, 1, none⟩), slots := [2] },
          { val := fun _ => iV 7, slots := [39], reads := [0] },
          { val := fun _ => .tuple #[.agg #[iV 4, iV 4], iV 0], slots := [36, 38, 40], reads := [500002, 2] },
          { val := fun _ => .tuple #[.agg #[iV 4, iV 4], iV 0], slots := [41] },
          { val := fun _ => .agg #[iV 4, iV 4], slots := [35] },
          { val := fun _ => iV 0, slots := [35] },
          { names := [11], val := fun l => .pointer (some ⟨(l.getD 0 0), 0, none⟩), upd := [(11, fun l => aO #[iV 0, iV 0] 23)], news := [11] },
          { upd := [(11, fun l => aO #[iV 4, iV 4] 23)], slots := [3, 42], reads := [11] },
          { val := fun _ => iV 0, slots := [43] }] [[], [], [1], [], [3], [0, 1, 2, 3, 4], [0, 1, 2, 3, 4, 5], [0, 1, 2, 3, 4, 5, 6], [0, 1, 2, 3, 4, 5, 6], [], [0, 1, 2, 3, 4, 5, 6, 7, 9], [0, 1, 2, 3, 4, 5, 6, 7, 8, 9, 10]] (by kernel_rfl) (by kernel_rfl) (by kernel_rfl) (by kernel_rfl) [0, 29, 30, 31, 2, 3, 4] [0, 1, 11] (by kernel_rfl)
          ⟨⟨⟨⟨⟨⟨⟨⟨⟨⟨⟨⟨trivial,
          tri_nw2 2 500002 rfl rfl (fun β nb_ nc_ => .agg #[sV nc_ 2 2, iV 5, iV 12, sV nb_ 1 1]) (fun β nb_ nc_ => aO #[iV 1, iV 4, iV 8, iV 10] 61) (fun β nb_ nc_ => aO #[iV 40, iV 44, iV 4, iV 4, iV 10, iV 12, iV (-6), iV (-5), iV 2, iV 3, iV 0, iV 0] 54) 12 (fun β => #[]) (by kernel_rfl) (fun β extra => by kernel_rfl) (fun β nb_ nc_ => rfl) (fun β nb_ nc_ => rfl) (fun β nb_ nc_ => by kernel_rfl) (fun β nb_ nc_ => by kernel_rfl) (fun β nb_ nc_ => by kernel_rfl) (fun β nb_ nc_ => by kernel_rfl) (fun β w1 k1 h1 => sample_any w1)⟩,
          tri_quietW (fun β => []) [] [] (fun β => []) (by kernel_rfl) (fun β extra => by kernel_rfl) (by kernel_rfl) (fun β => trivial)⟩,
          tri_quietW (fun β => []) [0] [0] (fun β => [(pA b2, pA b2)]) (by kernel_rfl) (fun β extra => by kernel_rfl) (by kernel_rfl) (fun β => ⟨rfl, trivial⟩)⟩,
          tri_quietW (fun β => []) [] [] (fun β => []) (by kernel_rfl) (fun β extra => by kernel_rfl) (by kernel_rfl) (fun β => trivial)⟩,
          tri_quietW (fun β => []) [0] [0] (fun β => [(pA b2, pA b2)]) (by kernel_rfl) (fun β extra => by kernel_rfl) (by kernel_rfl) (fun β => ⟨rfl, trivial⟩)⟩,
          tri_callVW (fun β => .tuple #[.agg #[iV 4, iV 4], iV 0]) (fun β => by kernel_rfl) 11 (fun β => #[.agg #[.slice (some ⟨(β 500002), 0, none⟩) 2 2, iV 5, iV 12, .slice (some ⟨(β 2), 0, none⟩) 1 1], iV 0, iV 7]) (by kernel_rfl) (fun β extra => by kernel_rfl) (fun β => by kernel_rfl) (fun β w1 k1 h1 => (by have h := Excess_any (smp (β 500002) (β 2)) 0 7 w1 (smp_in (by exact (h1 ((β 500002), aO #[iV 40, iV 44, iV 4, iV 4, iV 10, iV 12, iV (-6), iV (-5), iV 2, iV 3, iV 0, iV 0] 54) (List.mem_of_getElem? (i := 0) (by kernel_rfl)))) (by exact (h1 ((β 2), aO #[iV 1, iV 4, iV 8, iV 10] 61) (List.mem_of_getElem? (i := 1) (by kernel_rfl))))); rw [show excR (smp (β 500002) (β 2)).n 0 7 = .inr (4, 4) from by kernel_rfl] at h; exact h))⟩,
          tri_quietW (fun β => []) [] [] (fun β => []) (by kernel_rfl) (fun β extra => by kernel_rfl) (by kernel_rfl) (fun β => trivial)⟩,
          tri_quietW (fun β => []) [] [] (fun β => []) (by kernel_rfl) (fun β extra => by kernel_rfl) (by kernel_rfl) (fun β => trivial)⟩,
          tri_quietW (fun β => []) [] [] (fun β => []) (by kernel_rfl) (fun β extra => by kernel_rfl) (by kernel_rfl) (fun β => trivial)⟩,
          tri_newW 11 (fun β => aO #[iV 0, iV 0] 23) (fun β b => pA b) [0] (by kernel_rfl) (fun β extra b => by kernel_rfl) (by kernel_rfl) (fun β b => by kernel_rfl) (fun β b => by kernel_rfl) (fun β b => by kernel_rfl)⟩,
          tri_quietW (fun β => []) [0] [0] (fun β => [(.pointer (some ⟨(β 11), 0, none⟩), .pointer (some ⟨(β 11), 0, none⟩))]) (by kernel_rfl) (fun β extra => by kernel_rfl) (by kernel_rfl) (fun β => ⟨rfl, trivial⟩)⟩,
          tri_quietW (fun β => []) [] [] (fun β => []) (by kernel_rfl) (fun β extra => by kernel_rfl) (by kernel_rfl) (fun β => trivial)⟩
          (fun β => ⟨[(0, .bool false), (29, sV b1 4 4), (30, iV 4), (31, iV 1), (2, pA b2), (3, .pointer (some ⟨(β 11), 0, none⟩)), (4, iV 0)], [(b2, aO #[iV 0, iV 7, iV 4, iV 4] 25), (b1, aO #[iV 0, iV 4, iV 12, iV 13, iV 0, iV 7, iV 4, iV 4, iV 1, iV 1, iV (-4), iV (-2), iV 1, iV 4, iV 8, iV 10] 25), ((β 11), aO #[iV 4, iV 4] 23)]⟩) (fun β => by kernel_rfl) (fun β3 => ?_)
    refine run_auto [] 5 [] [2, 0] [0, 29, 30, 31, 4, 44, 46] [1] (st' := ⟨[(0, .bool false), (29, sV b1 4 4), (30, iV 4), (31, iV 1), (4, iV 0), (44, .agg #[iV 4, iV 4]), (46, .agg #[iV 4, iV 4])], [(b1, aO #[iV 0, iV 4, iV 12, iV 13, iV 0, iV 7, iV 4, iV 4, iV 1, iV 1, iV (-4), iV (-2), iV 1, iV 4, iV 8, iV 10] 25)]⟩) (acc := [(pA b2, pA b2), (.pointer (some ⟨(β3 11), 0, none⟩), .pointer (some ⟨(β3 11), 0, none⟩))]) (by kernel_rfl) (by kernel_rfl) ⟨rfl, rfl, trivial⟩ ?_
    refine run_v ((do eqGuard .neq 23 (.tmp 44) (.tmp 46) (.agg #[iV 4, iV 4]) (.agg #[iV 4, iV 4]); binOp .neq 23 (.agg #[iV 4, iV 4]) (.agg #[iV 4, iV 4])) >>= fun v => pure (Next.value v)) (some 47) (.bool false) (by kernel_rfl) (fun w1 k1 h1 => eq_span_ne (.tmp 44) (.tmp 46) 4 4 4 4 w1) ?_
    refine run_auto [(50, .bool false), (52, iV 2)] 12 [false] [] [0, 29, 30, 31] [0] (st' := ⟨[(0, .bool false), (29, sV b1 4 4), (30, iV 4), (31, iV 2)], [(b1, aO #[iV 0, iV 4, iV 12, iV 13, iV 0, iV 7, iV 4, iV 4, iV 1, iV 1, iV (-4), iV (-2), iV 1, iV 4, iV 8, iV 10] 25)]⟩) (acc := [(iV 2, iV 2), (.bool false, .bool false), (.bool false, .bool false)]) (by kernel_rfl) (by kernel_rfl) ⟨rfl, rfl, rfl, trivial⟩ ?_
    exact run_round (by kernel_rfl) (hJ0 (2) (trivial) (by omega))
  · skip
    refine run_auto [(32, .bool true)] 13 [true] [0] [0, 29, 30, 31, 34] [0] (st' := ⟨[(0, .bool false), (29, sV b1 4 4), (30, iV 4), (31, iV 2), (34, .agg #[iV 1, iV 1, iV (-4), iV (-2)])], [(b1, aO #[iV 0, iV 4, iV 12, iV 13, iV 0, iV 7, iV 4, iV 4, iV 1, iV 1, iV (-4), iV (-2), iV 1, iV 4, iV 8, iV 10] 25)]⟩) (acc := [(pA b1, pA b1), (.bool true, .bool true), (.bool true, .bool true)]) (by kernel_rfl) (by kernel_rfl) ⟨rfl, rfl, rfl, trivial⟩ ?_
    refine run_new (aO #[iV 0, iV 0, iV 0, iV 0] 25) (fun b2 => pA b2) (some 2) (fun _ => by kernel_rfl) (fun b2 hb2 => ?_)
    refine run_auto [] 3 [] [0] [0, 29, 30, 31, 2] [0, 1] (st' := ⟨[(0, .bool false), (29, sV b1 4 4), (30, iV 4), (31, iV 2), (2, pA b2)], [(b2, aO #[iV 1, iV 1, iV (-4), iV (-2)] 25), (b1, aO #[iV 0, iV 4, iV 12, iV 13, iV 0, iV 7, iV 4, iV 4, iV 1, iV 1, iV (-4), iV (-2), iV 1, iV 4, iV 8, iV 10] 25)]⟩) (acc := [(pA b2, pA b2)]) (by kernel_rfl) (by kernel_rfl) ⟨rfl, trivial⟩ ?_
    refine drawW 12 [{ names := [2, 500002], val := fun l => .agg #[.slice (some ⟨(l.getD 1 0), 0, none⟩) 2 2, iV 5, iV 12, .slice (some ⟨(l.getD 0 0), 0, none⟩) 1 1], upd := [(2, fun l => aO #[iV 1, iV 4, iV 8, iV 10] 61), (500002, fun l => aO #[iV 40, iV 44, iV 4, iV 4, iV 10, iV 12, iV (-6), iV (-5), iV 2, iV 3, iV 0, iV 0] 54)], news := [2, 500002] },
          { val := fun _ => pA b2, slots := [2] },
          { val := fun _ => iV 1, slots := [37], reads := [0] },
          { val := fun _ => .pointer (some ⟨b2, 1, none⟩), slots := [2] },
          { val := fun _ => iV 1, slots := [39], reads := [0] },
          { val := fun _ => .tuple #[.agg #[iV (-4), iV (-2)], iV 0], slots := [36, 38, 40], reads := [500002, 2] },
          { val := fun _ => .tuple #[.agg #[iV (-4), iV (-2)], iV 0], slots := [41] },
          { val := fun _ => .agg #[iV (-4), iV (-2)], slots := [35] },
          { val := fun _ => iV 0, slots := [35] },
          { names := [11], val := fun l => .pointer (some ⟨(l.getD 0 0), 0, none⟩), upd := [(11, fun l => aO #[iV 0, iV 0] 23)], news := [11] },
          { upd := [(11, fun l => aO #[iV (-4), iV (-2)] 23)], slots := [3, 42], reads := [11] },
          { val := fun _ => iV 0, slots := [43] }] [[], [], [1], [], [3], [0, 1, 2, 3, 4], [0, 1, 2, 3, 4, 5], [0, 1, 2, 3, 4, 5, 6], [0, 1, 2, 3, 4, 5, 6], [], [0, 1, 2, 3, 4, 5, 6, 7, 9], [0, 1, 2, 3, 4, 5, 6, 7, 8, 9, 10]] (by kernel_rfl) (by kernel_rfl) (by kernel_rfl) (by kernel_rfl) [0, 29, 30, 31, 2, 3, 4] [0, 1, 11] (by kernel_rfl)
          ⟨⟨⟨⟨⟨⟨⟨⟨⟨⟨⟨⟨trivial,
          tri_nw2 2 500002 rfl rfl (fun β nb_ nc_ => .agg #[sV nc_ 2 2, iV 5, iV 12, sV nb_ 1 1]) (fun β nb_ nc_ => aO #[iV 1, iV 4, iV 8, iV 10] 61) (fun β nb_ nc_ => aO #[iV 40, iV 44, iV 4, iV 4, iV 10, iV 12, iV (-6), iV (-5), iV 2, iV 3, iV 0, iV 0] 54) 12 (fun β => #[]) (by kernel_rfl) (fun β extra => by kernel_rfl) (fun β nb_ nc_ => rfl) (fun β nb_ nc_ => rfl) (fun β nb_ nc_ => by kernel_rfl) (fun β nb_ nc_ => by kernel_rfl) (fun β nb_ nc_ => by kernel_rfl) (fun β nb_ nc_ => by kernel_rfl) (fun β w1 k1 h1 => sample_any w1)⟩,
          tri_quietW (fun β => []) [] [] (fun β => []) (by kernel_rfl) (fun β extra => by kernel_rfl) (by kernel_rfl) (fun β => trivial)⟩,
          tri_quietW (fun β => []) [0] [0] (fun β => [(pA b2, pA b2)]) (by kernel_rfl) (fun β extra => by kernel_rfl) (by kernel_rfl) (fun β => ⟨rfl, trivial⟩)⟩,
          tri_quietW (fun β => []) [] [] (fun β => []) (by kernel_rfl) (fun β extra => by kernel_rfl) (by kernel_rfl) (fun β => trivial)⟩,
          tri_quietW (fun β => []) [0] [0] (fun β => [(pA b2, pA b2)]) (by kernel_rfl) (fun β extra => by kernel_rfl) (by kernel_rfl) (fun β => ⟨rfl, trivial⟩)⟩,
          tri_callVW (fun β => .tuple #[.agg #[iV (-4), iV (-2)], iV 0]) (fun β => by kernel_rfl) 11 (fun β => #[.agg #[.slice (some ⟨(β 500002), 0, none⟩) 2 2, iV 5, iV 12, .slice (some ⟨(β 2), 0, none⟩) 1 1], iV 1, iV 1]) (by kernel_rfl) (fun β extra => by kernel_rfl) (fun β => by kernel_rfl) (fun β w1 k1 h1 => (by have h := Excess_any (smp (β 500002) (β 2)) 1 1 w1 (smp_in (by exact (h1 ((β 500002), aO #[iV 40, iV 44, iV 4, iV 4, iV 10, iV 12, iV (-6), iV (-5), iV 2, iV 3, iV 0, iV 0] 54) (List.mem_of_getElem? (i := 0) (by kernel_rfl)))) (by exact (h1 ((β 2), aO #[iV 1, iV 4, iV 8, iV 10] 61) (List.mem_of_getElem? (i := 1) (by kernel_rfl))))); rw [show excR (smp (β 500002) (β 2)).n 1 1 = .inr (-4, -2) from by kernel_rfl] at h; exact h))⟩,
          tri_quietW (fun β => []) [] [] (fun β => []) (by kernel_rfl) (fun β extra => by kernel_rfl) (by kernel_rfl) (fun β => trivial)⟩,
          tri_quietW (fun β => []) [] [] (fun β => []) (by kernel_rfl) (fun β extra => by kernel_rfl) (by kernel_rfl) (fun β => trivial)⟩,
          tri_quietW (fun β => []) [] [] (fun β => []) (by kernel_rfl) (fun β extra => by kernel_rfl) (by kernel_rfl) (fun β => trivial)⟩,
          tri_newW 11 (fun β => aO #[iV 0, iV 0] 23) (fun β b => pA b) [0] (by kernel_rfl) (fun β extra b => by kernel_rfl) (by kernel_rfl) (fun β b => by kernel_rfl) (fun β b => by kernel_rfl) (fun β b => by kernel_rfl)⟩,
          tri_quietW (fun β => []) [0] [0] (fun β => [(.pointer (some ⟨(β 11), 0, none⟩), .pointer (some ⟨(β 11), 0, none⟩))]) (by kernel_rfl) (fun β extra => by kernel_rfl) (by kernel_rfl) (fun β => ⟨rfl, trivial⟩)⟩,
          tri_quietW (fun β => []) [] [] (fun β => []) (by kernel_rfl) (fun β extra => by kernel_rfl) (by kernel_rfl) (fun β => trivial)⟩
          (fun β => ⟨[(0, .bool false), (29, sV b1 4 4), (30, iV 4), (31, iV 2), (2, pA b2), (3, .pointer (some ⟨(β 11), 0, none⟩)), (4, iV 0)], [(b2, aO #[iV 1, iV 1, iV (-4), iV (-2)] 25), (b1, aO #[iV 0, iV 4, iV 12, iV 13, iV 0, iV 7, iV 4, iV 4, iV 1, iV 1, iV (-4), iV (-2), iV 1, iV 4, iV 8, iV 10] 25), ((β 11), aO #[iV (-4), iV (-2)] 23)]⟩) (fun β => by kernel_rfl) (fun β3 => ?_)
    refine run_auto [] 5 [] [2, 0] [0, 29, 30, 31, 4, 44, 46] [1] (st' := ⟨[(0, .bool false), (29, sV b1 4 4), (30, iV 4), (31, iV 2), (4, iV 0), (44, .agg #[iV (-4), iV (-2)]), (46, .agg #[iV (-4), iV (-2)])], [(b1, aO #[iV 0, iV 4, iV 12, iV 13, iV 0, iV 7, iV 4, iV 4, iV 1, iV 1, iV (-4), iV (-2), iV 1, iV 4, iV 8, iV 10] 25)]⟩) (acc := [(pA b2, pA b2), (.pointer (some ⟨(β3 11), 0, none⟩), .pointer (some ⟨(β3 11), 0, none⟩))]) (by kernel_rfl) (by kernel_rfl) ⟨rfl, rfl, trivial⟩ ?_
    refine run_v ((do eqGuard .neq 23 (.tmp 44) (.tmp 46) (.agg #[iV (-4), iV (-2)]) (.agg #[iV (-4), iV (-2)]); binOp .neq 23 (.agg #[iV (-4), iV (-2)]) (.agg #[iV (-4), iV (-2)])) >>= fun v => pure (Next.value v)) (some 47) (.bool false) (by kernel_rfl) (fun w1 k1 h1 => eq_span_ne (.tmp 44) (.tmp 46) (-4) (-2) (-4) (-2) w1) ?_
    refine run_auto [(50, .bool false), (52, iV 3)] 12 [false] [] [0, 29, 30, 31] [0] (st' := ⟨[(0, .bool false), (29, sV b1 4 4), (30, iV 4), (31, iV 3)], [(b1, aO #[iV 0, iV 4, iV 12, iV 13, iV 0, iV 7, iV 4, iV 4, iV 1, iV 1, iV (-4), iV (-2), iV 1, iV 4, iV 8, iV 10] 25)]⟩) (acc := [(iV 3, iV 3), (.bool false, .bool false), (.bool false, .bool false)]) (by kernel_rfl) (by kernel_rfl) ⟨rfl, rfl, rfl, trivial⟩ ?_
    exact run_round (by kernel_rfl) (hJ0 (3) (trivial) (by omega))
  · skip
    refine run_auto [(32, .bool true)] 13 [true] [0] [0, 29, 30, 31, 34] [0] (st' := ⟨[(0, .bool false), (29, sV b1 4 4), (30, iV 4), (31, iV 3), (34, .agg #[iV 1, iV 4, iV 8, iV 10])], [(b1, aO #[iV 0, iV 4, iV 12, iV 13, iV 0, iV 7, iV 4, iV 4, iV 1, iV 1, iV (-4), iV (-2), iV 1, iV 4, iV 8, iV 10] 25)]⟩) (acc := [(pA b1, pA b1), (.bool true, .bool true), (.bool true, .bool true)]) (by kernel_rfl) (by kernel_rfl) ⟨rfl, rfl, rfl, trivial⟩ ?_
    refine run_new (aO #[iV 0, iV 0, iV 0, iV 0] 25) (fun b2 => pA b2) (some 2) (fun _ => by kernel_rfl) (fun b2 hb2 => ?_)
    refine run_auto [] 3 [] [0] [0, 29, 30, 31, 2] [0, 1] (st' := ⟨[(0, .bool false), (29, sV b1 4 4), (30, iV 4), (31, iV 3), (2, pA b2)], [(b2, aO #[iV 1, iV 4, iV 8, iV 10] 25), (b1, aO #[iV 0, iV 4, iV 12, iV 13, iV 0, iV 7, iV 4, iV 4, iV 1, iV 1, iV (-4), iV (-2), iV 1, iV 4, iV 8, iV 10] 25)]⟩) (acc := [(pA b2, pA b2)]) (by kernel_rfl) (by kernel_rfl) ⟨rfl, trivial⟩ ?_
    refine drawW 12 [{ names := [2, 500002], val := fun l => .agg #[.slice (some ⟨(l.getD 1 0), 0, none⟩) 2 2, iV 5, iV 12, .slice (some ⟨(l.getD 0 0), 0, none⟩) 1 1], upd := [(2, fun l => aO #[iV 1, iV 4, iV 8, iV 10] 61), (500002, fun l => aO #[iV 40, iV 44, iV 4, iV 4, iV 10, iV 12, iV (-6), iV (-5), iV 2, iV 3, iV 0, iV 0] 54)], news := [2, 500002] },
          { val := fun _ => pA b2, slots := [2] },
          { val := fun _ => iV 1, slots := [37], reads := [0] },
          { val := fun _ => .pointer (some ⟨b2, 1, none⟩), slots := [2] },
          { val := fun _ => iV 4, slots := [39], reads := [0] },
          { val := fun _ => .tuple #[.agg #[iV 8, iV 10], iV 0], slots := [36, 38, 40], reads := [500002, 2] },
          { val := fun _ => .tuple #[.agg #[iV 8, iV 10], iV 0], slots := [41] },
          { val := fun _ => .agg #[iV 8, iV 10], slots := [35] },
          { val := fun _ => iV 0, slots := [35] },
          { names := [11], val := fun l => .pointer (some ⟨(l.getD 0 0), 0, none⟩), upd := [(11, fun l => aO #[iV 0, iV 0] 23)], news := [11] },
          { upd := [(11, fun l => aO #[iV 8, iV 10] 23)], slots := [3, 42], reads := [11] },
          { val := fun _ => iV 0, slots := [43] }] [[], [], [1], [], [3], [0, 1, 2, 3, 4], [0, 1, 2, 3, 4, 5], [0, 1, 2, 3, 4, 5, 6], [0, 1, 2, 3, 4, 5, 6], [], [0, 1, 2, 3, 4, 5, 6, 7, 9], [0, 1, 2, 3, 4, 5, 6, 7, 8, 9, 10]] (by kernel_rfl) (by kernel_rfl) (by kernel_rfl) (by kernel_rfl) [0, 29, 30, 31, 2, 3, 4] [0, 1, 11] (by kernel_rfl)
          ⟨⟨⟨⟨⟨⟨⟨⟨⟨⟨⟨⟨trivial,
          tri_nw2 2 500002 rfl rfl (fun β nb_ nc_ => .agg #[sV nc_ 2 2, iV 5, iV 12, sV nb_ 1 1]) (fun β nb_ nc_ => aO #[iV 1, iV 4, iV 8, iV 10] 61) (fun β nb_ nc_ => aO #[iV 40, iV 44, iV 4, iV 4, iV 10, iV 12, iV (-6), iV (-5), iV 2, iV 3, iV 0, iV 0] 54) 12 (fun β => #[]) (by kernel_rfl) (fun β extra => by kernel_rfl) (fun β nb_ nc_ => rfl) (fun β nb_ nc_ => rfl) (fun β nb_ nc_ => by kernel_rfl) (fun β nb_ nc_ => by kernel_rfl) (fun β nb_ nc_ => by kernel_rfl) (fun β nb_ nc_ => by kernel_rfl) (fun β w1 k1 h1 => sample_any w1)⟩,
          tri_quietW (fun β => []) [] [] (fun β => []) (by kernel_rfl) (fun β extra => by kernel_rfl) (by kernel_rfl) (fun β => trivial)⟩,
          tri_quietW (fun β => []) [0] [0] (fun β => [(pA b2, pA b2)]) (by kernel_rfl) (fun β extra => by kernel_rfl) (by kernel_rfl) (fun β => ⟨rfl, trivial⟩)⟩,
          tri_quietW (fun β => []) [] [] (fun β => []) (by kernel_rfl) (fun β extra => by kernel_rfl) (by kernel_rfl) (fun β => trivial)⟩,
          tri_quietW (fun β => []) [0] [0] (fun β => [(pA b2, pA b2)]) (by kernel_rfl) (fun β extra => by kernel_rfl) (by kernel_rfl) (fun β => ⟨rfl, trivial⟩)⟩,
          tri_callVW (fun β => .tuple #[.agg #[iV 8, iV 10], iV 0]) (fun β => by kernel_rfl) 11 (fun β => #[.agg #[.slice (some ⟨(β 500002), 0, none⟩) 2 2, iV 5, iV 12, .slice (some ⟨(β 2), 0, none⟩) 1 1], iV 1, iV 4]) (by kernel_rfl) (fun β extra => by kernel_rfl) (fun β => by kernel_rfl) (fun β w1 k1 h1 => (by have h := Excess_any (smp (β 500002) (β 2)) 1 4 w1 (smp_in (by exact (h1 ((β 500002), aO #[iV 40, iV 44, iV 4, iV 4, iV 10, iV 12, iV (-6), iV (-5), iV 2, iV 3, iV 0, iV 0] 54) (List.mem_of_getElem? (i := 0) (by kernel_rfl)))) (by exact (h1 ((β 2), aO #[iV 1, iV 4, iV 8, iV 10] 61) (List.mem_of_getElem? (i := 1) (by kernel_rfl))))); rw [show excR (smp (β 500002) (β 2)).n 1 4 = .inr (8, 10) from by kernel_rfl] at h; exact h))⟩,
          tri_quietW (fun β => []) [] [] (fun β => []) (by kernel_rfl) (fun β extra => by kernel_rfl) (by kernel_rfl) (fun β => trivial)⟩,
          tri_quietW (fun β => []) [] [] (fun β => []) (by kernel_rfl) (fun β extra => by kernel_rfl) (by kernel_rfl) (fun β => trivial)⟩,
          tri_quietW (fun β => []) [] [] (fun β => []) (by kernel_rfl) (fun β extra => by kernel_rfl) (by kernel_rfl) (fun β => trivial)⟩,
          tri_newW 11 (fun β => aO #[iV 0, iV 0] 23) (fun β b => pA b) [0] (by kernel_rfl) (fun β extra b => by kernel_rfl) (by kernel_rfl) (fun β b => by kernel_rfl) (fun β b => by kernel_rfl) (fun β b => by kernel_rfl)⟩,
          tri_quietW (fun β => []) [0] [0] (fun β => [(.pointer (some ⟨(β 11), 0, none⟩), .pointer (some ⟨(β 11), 0, none⟩))]) (by kernel_rfl) (fun β extra => by kernel_rfl) (by kernel_rfl) (fun β => ⟨rfl, trivial⟩)⟩,
          tri_quietW (fun β => []) [] [] (fun β => []) (by kernel_rfl) (fun β extra => by kernel_rfl) (by kernel_rfl) (fun β => trivial)⟩
          (fun β => ⟨[(0, .bool false), (29, sV b1 4 4), (30, iV 4), (31, iV 3), (2, pA b2), (3, .pointer (some ⟨(β 11), 0, none⟩)), (4, iV 0)], [(b2, aO #[iV 1, iV 4, iV 8, iV 10] 25), (b1, aO #[iV 0, iV 4, iV 12, iV 13, iV 0, iV 7, iV 4, iV 4, iV 1, iV 1, iV (-4), iV (-2), iV 1, iV 4, iV 8, iV 10] 25), ((β 11), aO #[iV 8, iV 10] 23)]⟩) (fun β => by kernel_rfl) (fun β3 => ?_)
    refine run_auto [] 5 [] [2, 0] [0, 29, 30, 31, 4, 44, 46] [1] (st' := ⟨[(0, .bool false), (29, sV b1 4 4), (30, iV 4), (31, iV 3), (4, iV 0), (44, .agg #[iV 8, iV 10]), (46, .agg #[iV 8, iV 10])], [(b1, aO #[iV 0, iV 4, iV 12, iV 13, iV 0, iV 7, iV 4, iV 4, iV 1, iV 1, iV (-4), iV (-2), iV 1, iV 4, iV 8, iV 10] 25)]⟩) (acc := [(pA b2, pA b2), (.pointer (some ⟨(β3 11), 0, none⟩), .pointer (some ⟨(β3 11), 0, none⟩))]) (by kernel_rfl) (by kernel_rfl) ⟨rfl, rfl, trivial⟩ ?_
    refine run_v ((do eqGuard .neq 23 (.tmp 44) (.tmp 46) (.agg #[iV 8, iV 10]) (.agg #[iV 8, iV 10]); binOp .neq 23 (.agg #[iV 8, iV 10]) (.agg #[iV 8, iV 10])) >>= fun v => pure (Next.value v)) (some 47) (.bool false) (by kernel_rfl) (fun w1 k1 h1 => eq_span_ne (.tmp 44) (.tmp 46) 8 10 8 10 w1) ?_
    refine run_auto [(50, .bool false), (52, iV 4)] 12 [false] [] [0, 29, 30, 31] [0] (st' := ⟨[(0, .bool false), (29, sV b1 4 4), (30, iV 4), (31, iV 4)], [(b1, aO #[iV 0, iV 4, iV 12, iV 13, iV 0, iV 7, iV 4, iV 4, iV 1, iV 1, iV (-4), iV (-2), iV 1, iV 4, iV 8, iV 10] 25)]⟩) (acc := [(iV 4, iV 4), (.bool false, .bool false), (.bool false, .bool false)]) (by kernel_rfl) (by kernel_rfl) ⟨rfl, rfl, rfl, trivial⟩ ?_
    exact run_round (by kernel_rfl) (hJ0 (4) (trivial) (by omega))
  · skip
    refine run_auto [(32, .bool false)] 9 [false] [] [0] [] (st' := ⟨[(0, .bool false)], []⟩) (acc := [(.bool false, .bool false), (.bool false, .bool false)]) (by kernel_rfl) (by kernel_rfl) ⟨rfl, rfl, trivial⟩ ?_
    refine run_nwl 12 #[] (some 54) (α := Nat × Nat) (fun x => .agg #[.slice (some ⟨(x.2), 0, none⟩) 2 2, iV 5, iV 12, .slice (some ⟨(x.1), 0, none⟩) 1 1]) (fun x => [((x.1), aO #[iV 1, iV 4, iV 8, iV 10] 61), ((x.2), aO #[iV 40, iV 44, iV 4, iV 4, iV 10, iV 12, iV (-6), iV (-5), iV 2, iV 3, iV 0, iV 0] 54)]) (fun x => True) (by kernel_rfl) (fun x p hp => by simp only [List.mem_cons, List.not_mem_nil, or_false] at hp; rcases hp with rfl | rfl <;> rfl) (fun w1 k1 h1 => sample_any w1) (fun x hI2 hn2 => ?_)
    obtain ⟨gt2, gb2⟩ := x
    dsimp only at hI2 hn2
    have hgt2 := hn2 _ (List.mem_of_getElem? (i := 0) rfl)
    have hgb2 := hn2 _ (List.mem_of_getElem? (i := 1) rfl)
    refine run_ret1 13 #[.agg #[sV gb2 2 2, iV 5, iV 12, sV gt2 1 1], iV 1, iV 4] (some 55) (.tuple #[.agg #[iV 0, iV 0], iV 0]) (by kernel_rfl) (fun w1 k1 h1 => (by have h := Longer_any (smp gb2 gt2) 1 4 w1 (smp_in (by exact (h1 (gb2, aO #[iV 40, iV 44, iV 4, iV 4, iV 10, iV 12, iV (-6), iV (-5), iV 2, iV 3, iV 0, iV 0] 54) (List.mem_of_getElem? (i := 1) (by kernel_rfl)))) (by exact (h1 (gt2, aO #[iV 1, iV 4, iV 8, iV 10] 61) (List.mem_of_getElem? (i := 0) (by kernel_rfl))))); rw [show lonR (smp gb2 gt2).n 1 4 = .inr (0, 0) from by kernel_rfl] at h; exact h)) ?_
    refine run_auto [] 3 [] [] [0, 56, 57] [] (st' := ⟨[(0, .bool false), (56, .agg #[iV 0, iV 0]), (57, iV 0)], []⟩) (acc := []) (by kernel_rfl) (by kernel_rfl) trivial ?_
    refine run_new (aO #[iV 0, iV 0] 23) (fun b3 => pA b3) (some 5) (fun _ => by kernel_rfl) (fun b3 hb3 => ?_)
    refine run_auto [] 5 [] [0] [0, 5, 6] [0] (st' := ⟨[(0, .bool false), (5, pA b3), (6, iV 0)], [(b3, aO #[iV 0, iV 0] 23)]⟩) (acc := [(pA b3, pA b3)]) (by kernel_rfl) (by kernel_rfl) ⟨rfl, trivial⟩ ?_
    refine run_nwl 12 #[] (some 59) (α := Nat × Nat) (fun x => .agg #[.slice (some ⟨(x.2), 0, none⟩) 2 2, iV 5, iV 12, .slice (some ⟨(x.1), 0, none⟩) 1 1]) (fun x => [((x.1), aO #[iV 1, iV 4, iV 8, iV 10] 61), ((x.2), aO #[iV 40, iV 44, iV 4, iV 4, iV 10, iV 12, iV (-6), iV (-5), iV 2, iV 3, iV 0, iV 0] 54)]) (fun x => True) (by kernel_rfl) (fun x p hp => by simp only [List.mem_cons, List.not_mem_nil, or_false] at hp; rcases hp with rfl | rfl <;> rfl) (fun w1 k1 h1 => sample_any w1) (fun x hI4 hn4 => ?_)
    obtain ⟨gt4, gb4⟩ := x
    dsimp only at hI4 hn4
    have hgt4 := hn4 _ (List.mem_of_getElem? (i := 0) rfl)
    have hgb4 := hn4 _ (List.mem_of_getElem? (i := 1) rfl)
    refine run_ret1 14 #[.agg #[sV gb4 2 2, iV 5, iV 12, sV gt4 1 1], iV 0, iV 7] (some 60) (.tuple #[iV 2, iV 0]) (by kernel_rfl) (fun w1 k1 h1 => (by have h := Settled_any (smp gb4 gt4) 0 7 w1 (smp_in (by exact (h1 (gb4, aO #[iV 40, iV 44, iV 4, iV 4, iV 10, iV 12, iV (-6), iV (-5), iV 2, iV 3, iV 0, iV 0] 54) (List.mem_of_getElem? (i := 1) (by kernel_rfl)))) (by exact (h1 (gt4, aO #[iV 1, iV 4, iV 8, iV 10] 61) (List.mem_of_getElem? (i := 0) (by kernel_rfl))))); rw [show setR (smp gb4 gt4).n 0 7 = .inr 2 from by kernel_rfl] at h; exact h)) ?_
    refine run_auto [] 8 [] [] [0, 5, 6, 7, 8] [2] (st' := ⟨[(0, .bool false), (5, pA b3), (6, iV 0), (7, iV 2), (8, iV 0)], [(b3, aO #[iV 0, iV 0] 23)]⟩) (acc := []) (by kernel_rfl) (by kernel_rfl) trivial ?_
    refine run_nwl 12 #[] (some 64) (α := Nat × Nat) (fun x => .agg #[.slice (some ⟨(x.2), 0, none⟩) 2 2, iV 5, iV 12, .slice (some ⟨(x.1), 0, none⟩) 1 1]) (fun x => [((x.1), aO #[iV 1, iV 4, iV 8, iV 10] 61), ((x.2), aO #[iV 40, iV 44, iV 4, iV 4, iV 10, iV 12, iV (-6), iV (-5), iV 2, iV 3, iV 0, iV 0] 54)]) (fun x => True) (by kernel_rfl) (fun x p hp => by simp only [List.mem_cons, List.not_mem_nil, or_false] at hp; rcases hp with rfl | rfl <;> rfl) (fun w1 k1 h1 => sample_any w1) (fun x hI5 hn5 => ?_)
    obtain ⟨gt5, gb5⟩ := x
    dsimp only at hI5 hn5
    have hgt5 := hn5 _ (List.mem_of_getElem? (i := 0) rfl)
    have hgb5 := hn5 _ (List.mem_of_getElem? (i := 1) rfl)
    refine run_ret1 14 #[.agg #[sV gb5 2 2, iV 5, iV 12, sV gt5 1 1], iV 1, iV 0] (some 65) (.tuple #[iV 1, iV 0]) (by kernel_rfl) (fun w1 k1 h1 => (by have h := Settled_any (smp gb5 gt5) 1 0 w1 (smp_in (by exact (h1 (gb5, aO #[iV 40, iV 44, iV 4, iV 4, iV 10, iV 12, iV (-6), iV (-5), iV 2, iV 3, iV 0, iV 0] 54) (List.mem_of_getElem? (i := 1) (by kernel_rfl)))) (by exact (h1 (gt5, aO #[iV 1, iV 4, iV 8, iV 10] 61) (List.mem_of_getElem? (i := 0) (by kernel_rfl))))); rw [show setR (smp gb5 gt5).n 1 0 = .inr 1 from by kernel_rfl] at h; exact h)) ?_
    refine run_auto [] 8 [] [] [0, 5, 6, 7, 8, 9, 10] [2] (st' := ⟨[(0, .bool false), (5, pA b3), (6, iV 0), (7, iV 2), (8, iV 0), (9, iV 1), (10, iV 0)], [(b3, aO #[iV 0, iV 0] 23)]⟩) (acc := []) (by kernel_rfl) (by kernel_rfl) trivial ?_
    refine run_nwl 12 #[] (some 69) (α := Nat × Nat) (fun x => .agg #[.slice (some ⟨(x.2), 0, none⟩) 2 2, iV 5, iV 12, .slice (some ⟨(x.1), 0, none⟩) 1 1]) (fun x => [((x.1), aO #[iV 1, iV 4, iV 8, iV 10] 61), ((x.2), aO #[iV 40, iV 44, iV 4, iV 4, iV 10, iV 12, iV (-6), iV (-5), iV 2, iV 3, iV 0, iV 0] 54)]) (fun x => True) (by kernel_rfl) (fun x p hp => by simp only [List.mem_cons, List.not_mem_nil, or_false] at hp; rcases hp with rfl | rfl <;> rfl) (fun w1 k1 h1 => sample_any w1) (fun x hI6 hn6 => ?_)
    obtain ⟨gt6, gb6⟩ := x
    dsimp only at hI6 hn6
    have hgt6 := hn6 _ (List.mem_of_getElem? (i := 0) rfl)
    have hgb6 := hn6 _ (List.mem_of_getElem? (i := 1) rfl)
    refine run_ret1 15 #[.agg #[sV gb6 2 2, iV 5, iV 12, sV gt6 1 1], iV 0] (some 70) (.tuple #[iV 7, iV 0]) (by kernel_rfl) (fun w1 k1 h1 => (by have h := When_any (smp gb6 gt6) 0 w1 (smp_in (by exact (h1 (gb6, aO #[iV 40, iV 44, iV 4, iV 4, iV 10, iV 12, iV (-6), iV (-5), iV 2, iV 3, iV 0, iV 0] 54) (List.mem_of_getElem? (i := 1) (by kernel_rfl)))) (by exact (h1 (gt6, aO #[iV 1, iV 4, iV 8, iV 10] 61) (List.mem_of_getElem? (i := 0) (by kernel_rfl))))); rw [show whenR (smp gb6 gt6).n 0 = .inr 7 from by kernel_rfl] at h; exact h)) ?_
    refine run_auto [] 8 [] [] [0, 5, 6, 7, 8, 9, 10, 11, 12] [2] (st' := ⟨[(0, .bool false), (5, pA b3), (6, iV 0), (7, iV 2), (8, iV 0), (9, iV 1), (10, iV 0), (11, iV 7), (12, iV 0)], [(b3, aO #[iV 0, iV 0] 23)]⟩) (acc := []) (by kernel_rfl) (by kernel_rfl) trivial ?_
    refine run_nwl 12 #[] (some 74) (α := Nat × Nat) (fun x => .agg #[.slice (some ⟨(x.2), 0, none⟩) 2 2, iV 5, iV 12, .slice (some ⟨(x.1), 0, none⟩) 1 1]) (fun x => [((x.1), aO #[iV 1, iV 4, iV 8, iV 10] 61), ((x.2), aO #[iV 40, iV 44, iV 4, iV 4, iV 10, iV 12, iV (-6), iV (-5), iV 2, iV 3, iV 0, iV 0] 54)]) (fun x => True) (by kernel_rfl) (fun x p hp => by simp only [List.mem_cons, List.not_mem_nil, or_false] at hp; rcases hp with rfl | rfl <;> rfl) (fun w1 k1 h1 => sample_any w1) (fun x hI7 hn7 => ?_)
    obtain ⟨gt7, gb7⟩ := x
    dsimp only at hI7 hn7
    have hgt7 := hn7 _ (List.mem_of_getElem? (i := 0) rfl)
    have hgb7 := hn7 _ (List.mem_of_getElem? (i := 1) rfl)
    refine run_nwl 16 #[.agg #[sV gb7 2 2, iV 5, iV 12, sV gt7 1 1], iV 0] (some 75) (α := Nat × Nat × List Value) (fun x => .tuple #[.slice (some ⟨(x.1), 0, none⟩) 1 (x.2.1), iV 0]) (fun x => [((x.1), cO (([(7, 12)] : List Sp).flatMap spR ++ (x.2.2)) 23)]) (fun x => 1 ≤ (x.2.1)) (by kernel_rfl) (fun x p hp => by simp only [List.mem_cons, List.not_mem_nil, or_false] at hp; rcases hp with rfl <;> rfl) (fun w1 k1 h1 => ((show Calls Try.prog 16 #[.agg #[sV gb7 2 2, iV 5, iV 12, sV gt7 1 1], iV 0] w1 (SlR (.inr [(7, 12)]) w1) from (by have h := Rests_any (smp gb7 gt7) 0 w1 (smp_in (by exact (h1 (gb7, aO #[iV 40, iV 44, iV 4, iV 4, iV 10, iV 12, iV (-6), iV (-5), iV 2, iV 3, iV 0, iV 0] 54) (List.mem_of_getElem? (i := 1) (by kernel_rfl)))) (by exact (h1 (gt7, aO #[iV 1, iV 4, iV 8, iV 10] 61) (List.mem_of_getElem? (i := 0) (by kernel_rfl))))); rw [show restR (smp gb7 gt7).n 0 = .inr [(7, 12)] from by kernel_rfl] at h; exact h)).mono fun _ _ hh => hh.elim (fun hh => absurd hh.1 (by decide)) (fun hh => hh.2))) (fun x hI8 hn8 => ?_)
    obtain ⟨rg8, rc8, rsp8⟩ := x
    dsimp only at hI8 hn8
    have hrg8 := hn8 _ (List.mem_of_getElem? (i := 0) rfl)
    refine run_auto [] 8 [] [] [0, 5, 6, 7, 8, 9, 10, 11, 12, 13, 14] [0, 3] (st' := ⟨[(0, .bool false), (5, pA b3), (6, iV 0), (7, iV 2), (8, iV 0), (9, iV 1), (10, iV 0), (11, iV 7), (12, iV 0), (13, sV rg8 1 rc8), (14, iV 0)], [(rg8, cO (([(7, 12)] : List Sp).flatMap spR ++ rsp8) 23), (b3, aO #[iV 0, iV 0] 23)]⟩) (acc := []) (by kernel_rfl) (by kernel_rfl) trivial ?_
    refine run_nwl 12 #[] (some 79) (α := Nat × Nat) (fun x => .agg #[.slice (some ⟨(x.2), 0, none⟩) 2 2, iV 5, iV 12, .slice (some ⟨(x.1), 0, none⟩) 1 1]) (fun x => [((x.1), aO #[iV 1, iV 4, iV 8, iV 10] 61), ((x.2), aO #[iV 40, iV 44, iV 4, iV 4, iV 10, iV 12, iV (-6), iV (-5), iV 2, iV 3, iV 0, iV 0] 54)]) (fun x => True) (by kernel_rfl) (fun x p hp => by simp only [List.mem_cons, List.not_mem_nil, or_false] at hp; rcases hp with rfl | rfl <;> rfl) (fun w1 k1 h1 => sample_any w1) (fun x hI9 hn9 => ?_)
    obtain ⟨gt9, gb9⟩ := x
    dsimp only at hI9 hn9
    have hgt9 := hn9 _ (List.mem_of_getElem? (i := 0) rfl)
    have hgb9 := hn9 _ (List.mem_of_getElem? (i := 1) rfl)
    refine run_ret1 17 #[.agg #[sV gb9 2 2, iV 5, iV 12, sV gt9 1 1], iV 0, iV 44] (some 80) (.tuple #[iV 7, iV 0]) (by kernel_rfl) (fun w1 k1 h1 => (by have h := Wait_any (smp gb9 gt9) 0 44 w1 (smp_in (by exact (h1 (gb9, aO #[iV 40, iV 44, iV 4, iV 4, iV 10, iV 12, iV (-6), iV (-5), iV 2, iV 3, iV 0, iV 0] 54) (List.mem_of_getElem? (i := 1) (by kernel_rfl)))) (by exact (h1 (gt9, aO #[iV 1, iV 4, iV 8, iV 10] 61) (List.mem_of_getElem? (i := 0) (by kernel_rfl))))); rw [show waitR (smp gb9 gt9).n 0 44 = .inr 7 from by kernel_rfl] at h; exact h)) ?_
    refine run_auto [] 8 [] [] [0, 5, 6, 7, 8, 9, 10, 11, 12, 13, 14, 15, 16] [2, 3] (st' := ⟨[(0, .bool false), (5, pA b3), (6, iV 0), (7, iV 2), (8, iV 0), (9, iV 1), (10, iV 0), (11, iV 7), (12, iV 0), (13, sV rg8 1 rc8), (14, iV 0), (15, iV 7), (16, iV 0)], [(rg8, cO (([(7, 12)] : List Sp).flatMap spR ++ rsp8) 23), (b3, aO #[iV 0, iV 0] 23)]⟩) (acc := []) (by kernel_rfl) (by kernel_rfl) trivial ?_
    refine run_nwl 12 #[] (some 84) (α := Nat × Nat) (fun x => .agg #[.slice (some ⟨(x.2), 0, none⟩) 2 2, iV 5, iV 12, .slice (some ⟨(x.1), 0, none⟩) 1 1]) (fun x => [((x.1), aO #[iV 1, iV 4, iV 8, iV 10] 61), ((x.2), aO #[iV 40, iV 44, iV 4, iV 4, iV 10, iV 12, iV (-6), iV (-5), iV 2, iV 3, iV 0, iV 0] 54)]) (fun x => True) (by kernel_rfl) (fun x p hp => by simp only [List.mem_cons, List.not_mem_nil, or_false] at hp; rcases hp with rfl | rfl <;> rfl) (fun w1 k1 h1 => sample_any w1) (fun x hI10 hn10 => ?_)
    obtain ⟨gt10, gb10⟩ := x
    dsimp only at hI10 hn10
    have hgt10 := hn10 _ (List.mem_of_getElem? (i := 0) rfl)
    have hgb10 := hn10 _ (List.mem_of_getElem? (i := 1) rfl)
    refine run_ret1 17 #[.agg #[sV gb10 2 2, iV 5, iV 12, sV gt10 1 1], iV 0, iV 5] (some 85) (.tuple #[iV 0, iV 0]) (by kernel_rfl) (fun w1 k1 h1 => (by have h := Wait_any (smp gb10 gt10) 0 5 w1 (smp_in (by exact (h1 (gb10, aO #[iV 40, iV 44, iV 4, iV 4, iV 10, iV 12, iV (-6), iV (-5), iV 2, iV 3, iV 0, iV 0] 54) (List.mem_of_getElem? (i := 1) (by kernel_rfl)))) (by exact (h1 (gt10, aO #[iV 1, iV 4, iV 8, iV 10] 61) (List.mem_of_getElem? (i := 0) (by kernel_rfl))))); rw [show waitR (smp gb10 gt10).n 0 5 = .inr 0 from by kernel_rfl] at h; exact h)) ?_
    refine run_auto [] 8 [] [] [0, 5, 6, 7, 8, 9, 10, 11, 12, 13, 14, 15, 16, 17, 18] [2, 3] (st' := ⟨[(0, .bool false), (5, pA b3), (6, iV 0), (7, iV 2), (8, iV 0), (9, iV 1), (10, iV 0), (11, iV 7), (12, iV 0), (13, sV rg8 1 rc8), (14, iV 0), (15, iV 7), (16, iV 0), (17, iV 0), (18, iV 0)], [(rg8, cO (([(7, 12)] : List Sp).flatMap spR ++ rsp8) 23), (b3, aO #[iV 0, iV 0] 23)]⟩) (acc := []) (by kernel_rfl) (by kernel_rfl) trivial ?_
    refine run_nwl 12 #[] (some 89) (α := Nat × Nat) (fun x => .agg #[.slice (some ⟨(x.2), 0, none⟩) 2 2, iV 5, iV 12, .slice (some ⟨(x.1), 0, none⟩) 1 1]) (fun x => [((x.1), aO #[iV 1, iV 4, iV 8, iV 10] 61), ((x.2), aO #[iV 40, iV 44, iV 4, iV 4, iV 10, iV 12, iV (-6), iV (-5), iV 2, iV 3, iV 0, iV 0] 54)]) (fun x => True) (by kernel_rfl) (fun x p hp => by simp only [List.mem_cons, List.not_mem_nil, or_false] at hp; rcases hp with rfl | rfl <;> rfl) (fun w1 k1 h1 => sample_any w1) (fun x hI11 hn11 => ?_)
    obtain ⟨gt11, gb11⟩ := x
    dsimp only at hI11 hn11
    have hgt11 := hn11 _ (List.mem_of_getElem? (i := 0) rfl)
    have hgb11 := hn11 _ (List.mem_of_getElem? (i := 1) rfl)
    refine run_ret1 18 #[.agg #[sV gb11 2 2, iV 5, iV 12, sV gt11 1 1], iV 0, iV 100, iV 7] (some 90) (.tuple #[iV 0, iV 4]) (by kernel_rfl) (fun w1 k1 h1 => (by have h := Latest_any (smp gb11 gt11) 0 7 100 w1 (smp_in (by exact (h1 (gb11, aO #[iV 40, iV 44, iV 4, iV 4, iV 10, iV 12, iV (-6), iV (-5), iV 2, iV 3, iV 0, iV 0] 54) (List.mem_of_getElem? (i := 1) (by kernel_rfl)))) (by exact (h1 (gt11, aO #[iV 1, iV 4, iV 8, iV 10] 61) (List.mem_of_getElem? (i := 0) (by kernel_rfl))))); rw [show latR (smp gb11 gt11).n 0 100 7 = .inl 4 from by kernel_rfl] at h; exact h)) ?_
    refine run_auto [] 7 [] [] [0, 5, 6, 7, 8, 9, 10, 11, 12, 13, 14, 15, 16, 17, 18, 20] [2, 3] (st' := ⟨[(0, .bool false), (5, pA b3), (6, iV 0), (7, iV 2), (8, iV 0), (9, iV 1), (10, iV 0), (11, iV 7), (12, iV 0), (13, sV rg8 1 rc8), (14, iV 0), (15, iV 7), (16, iV 0), (17, iV 0), (18, iV 0), (20, iV 4)], [(rg8, cO (([(7, 12)] : List Sp).flatMap spR ++ rsp8) 23), (b3, aO #[iV 0, iV 0] 23)]⟩) (acc := []) (by kernel_rfl) (by kernel_rfl) trivial ?_
    refine drawW 67 [{ val := fun _ => .bool true },
          { val := fun _ => .bool true, slots := [93] },
          { val := fun _ => .bool true, slots := [93, 94] },
          { val := fun _ => .bool true, slots := [95] },
          { val := fun _ => .agg #[iV 0, iV 0], slots := [5, 96], reads := [1] },
          { val := fun _ => .agg #[iV 0, iV 0], slots := [96] },
          { val := fun _ => .bool true, slots := [96, 97, 98] },
          { val := fun _ => .bool true, slots := [96, 99] },
          { val := fun _ => .bool true, slots := [100] },
          { val := fun _ => iV 0, slots := [6, 101] },
          { val := fun _ => .bool true, slots := [101, 102] },
          { val := fun _ => .bool true, slots := [101, 103] },
          { val := fun _ => .bool true, slots := [104] },
          { val := fun _ => iV 2, slots := [7, 105] },
          { val := fun _ => .bool true, slots := [105, 106] },
          { val := fun _ => .bool true, slots := [105, 107] },
          { val := fun _ => .bool true, slots := [108] },
          { val := fun _ => iV 0, slots := [8, 109] },
          { val := fun _ => .bool true, slots := [109, 110] },
          { val := fun _ => .bool true, slots := [109, 111] },
          { val := fun _ => .bool true, slots := [112] },
          { val := fun _ => iV 1, slots := [9, 113] },
          { val := fun _ => .bool true, slots := [113, 114] },
          { val := fun _ => .bool true, slots := [113, 115] },
          { val := fun _ => .bool true, slots := [116] },
          { val := fun _ => iV 0, slots := [10, 117] },
          { val := fun _ => .bool true, slots := [117, 118] },
          { val := fun _ => .bool true, slots := [117, 119] },
          { val := fun _ => .bool true, slots := [120] },
          { val := fun _ => iV 7, slots := [11, 121] },
          { val := fun _ => .bool true, slots := [121, 122] },
          { val := fun _ => .bool true, slots := [121, 123] },
          { val := fun _ => .bool true, slots := [124] },
          { val := fun _ => iV 0, slots := [12, 125] },
          { val := fun _ => .bool true, slots := [125, 126] },
          { val := fun _ => .bool true, slots := [125, 127] },
          { val := fun _ => .bool true, slots := [128] },
          { val := fun _ => sV rg8 1 rc8, slots := [13, 129] },
          { val := fun _ => .agg #[iV 7, iV 12], slots := [129] },
          { names := [41], val := fun l => .slice (some ⟨(l.getD 0 0), 0, none⟩) 1 1, upd := [(41, fun l => aO #[iV 7, iV 12] 23)], news := [41], slots := [129, 131] },
          { val := fun _ => .bool true, slots := [129, 130, 132], reads := [0, 41] },
          { val := fun _ => .bool true, slots := [129, 133] },
          { val := fun _ => .bool true, slots := [134] },
          { val := fun _ => iV 0, slots := [14, 135] },
          { val := fun _ => .bool true, slots := [135, 136] },
          { val := fun _ => .bool true, slots := [135, 137] },
          { val := fun _ => .bool true, slots := [138] },
          { val := fun _ => iV 7, slots := [15, 139] },
          { val := fun _ => .bool true, slots := [139, 140] },
          { val := fun _ => .bool true, slots := [139, 141] },
          { val := fun _ => .bool true, slots := [142] },
          { val := fun _ => iV 0, slots := [16, 143] },
          { val := fun _ => .bool true, slots := [143, 144] },
          { val := fun _ => .bool true, slots := [143, 145] },
          { val := fun _ => .bool true, slots := [146] },
          { val := fun _ => iV 0, slots := [17, 147] },
          { val := fun _ => .bool true, slots := [147, 148] },
          { val := fun _ => .bool true, slots := [147, 149] },
          { val := fun _ => .bool true, slots := [150] },
          { val := fun _ => iV 0, slots := [18, 151] },
          { val := fun _ => .bool true, slots := [151, 152] },
          { val := fun _ => .bool true, slots := [151, 153] },
          { val := fun _ => .bool true, slots := [154] },
          { val := fun _ => iV 4, slots := [20, 155] },
          { val := fun _ => .bool true, slots := [155, 156] },
          { val := fun _ => .bool true, slots := [155, 157] },
          { val := fun _ => .bool true, slots := [158] }] [[], [0], [0, 1], [0, 1, 2], [0, 1, 2, 3], [0, 1, 2, 3], [0, 1, 2, 3, 4, 5], [0, 1, 2, 3, 4, 5, 6], [0, 1, 2, 3, 4, 5, 6, 7], [0, 1, 2, 3, 4, 5, 6, 7, 8], [0, 1, 2, 3, 4, 5, 6, 7, 8, 9], [0, 1, 2, 3, 4, 5, 6, 7, 8, 9, 10], [0, 1, 2, 3, 4, 5, 6, 7, 8, 9, 10, 11], [0, 1, 2, 3, 4, 5, 6, 7, 8, 9, 10, 11, 12], [0, 1, 2, 3, 4, 5, 6, 7, 8, 9, 10, 11, 12, 13], [0, 1, 2, 3, 4, 5, 6, 7, 8, 9, 10, 11, 12, 13, 14], [0, 1, 2, 3, 4, 5, 6, 7, 8, 9, 10, 11, 12, 13, 14, 15], [0, 1, 2, 3, 4, 5, 6, 7, 8, 9, 10, 11, 12, 13, 14, 15, 16], [0, 1, 2, 3, 4, 5, 6, 7, 8, 9, 10, 11, 12, 13, 14, 15, 16, 17], [0, 1, 2, 3, 4, 5, 6, 7, 8, 9, 10, 11, 12, 13, 14, 15, 16, 17, 18], [0, 1, 2, 3, 4, 5, 6, 7, 8, 9, 10, 11, 12, 13, 14, 15, 16, 17, 18, 19], [0, 1, 2, 3, 4, 5, 6, 7, 8, 9, 10, 11, 12, 13, 14, 15, 16, 17, 18, 19, 20], [0, 1, 2, 3, 4, 5, 6, 7, 8, 9, 10, 11, 12, 13, 14, 15, 16, 17, 18, 19, 20, 21], [0, 1, 2, 3, 4, 5, 6, 7, 8, 9, 10, 11, 12, 13, 14, 15, 16, 17, 18, 19, 20, 21, 22], [0, 1, 2, 3, 4, 5, 6, 7, 8, 9, 10, 11, 12, 13, 14, 15, 16, 17, 18, 19, 20, 21, 22, 23], [0, 1, 2, 3, 4, 5, 6, 7, 8, 9, 10, 11, 12, 13, 14, 15, 16, 17, 18, 19, 20, 21, 22, 23, 24], [0, 1, 2, 3, 4, 5, 6, 7, 8, 9, 10, 11, 12, 13, 14, 15, 16, 17, 18, 19, 20, 21, 22, 23, 24, 25], [0, 1, 2, 3, 4, 5, 6, 7, 8, 9, 10, 11, 12, 13, 14, 15, 16, 17, 18, 19, 20, 21, 22, 23, 24, 25, 26], [0, 1, 2, 3, 4, 5, 6, 7, 8, 9, 10, 11, 12, 13, 14, 15, 16, 17, 18, 19, 20, 21, 22, 23, 24, 25, 26, 27], [0, 1, 2, 3, 4, 5, 6, 7, 8, 9, 10, 11, 12, 13, 14, 15, 16, 17, 18, 19, 20, 21, 22, 23, 24, 25, 26, 27, 28], [0, 1, 2, 3, 4, 5, 6, 7, 8, 9, 10, 11, 12, 13, 14, 15, 16, 17, 18, 19, 20, 21, 22, 23, 24, 25, 26, 27, 28, 29], [0, 1, 2, 3, 4, 5, 6, 7, 8, 9, 10, 11, 12, 13, 14, 15, 16, 17, 18, 19, 20, 21, 22, 23, 24, 25, 26, 27, 28, 29, 30], [0, 1, 2, 3, 4, 5, 6, 7, 8, 9, 10, 11, 12, 13, 14, 15, 16, 17, 18, 19, 20, 21, 22, 23, 24, 25, 26, 27, 28, 29, 30, 31], [0, 1, 2, 3, 4, 5, 6, 7, 8, 9, 10, 11, 12, 13, 14, 15, 16, 17, 18, 19, 20, 21, 22, 23, 24, 25, 26, 27, 28, 29, 30, 31, 32], [0, 1, 2, 3, 4, 5, 6, 7, 8, 9, 10, 11, 12, 13, 14, 15, 16, 17, 18, 19, 20, 21, 22, 23, 24, 25, 26, 27, 28, 29, 30, 31, 32, 33], [0, 1, 2, 3, 4, 5, 6, 7, 8, 9, 10, 11, 12, 13, 14, 15, 16, 17, 18, 19, 20, 21, 22, 23, 24, 25, 26, 27, 28, 29, 30, 31, 32, 33, 34], [0, 1, 2, 3, 4, 5, 6, 7, 8, 9, 10, 11, 12, 13, 14, 15, 16, 17, 18, 19, 20, 21, 22, 23, 24, 25, 26, 27, 28, 29, 30, 31, 32, 33, 34, 35], [0, 1, 2, 3, 4, 5, 6, 7, 8, 9, 10, 11, 12, 13, 14, 15, 16, 17, 18, 19, 20, 21, 22, 23, 24, 25, 26, 27, 28, 29, 30, 31, 32, 33, 34, 35, 36], [0, 1, 2, 3, 4, 5, 6, 7, 8, 9, 10, 11, 12, 13, 14, 15, 16, 17, 18, 19, 20, 21, 22, 23, 24, 25, 26, 27, 28, 29, 30, 31, 32, 33, 34, 35, 36], [0, 1, 2, 3, 4, 5, 6, 7, 8, 9, 10, 11, 12, 13, 14, 15, 16, 17, 18, 19, 20, 21, 22, 23, 24, 25, 26, 27, 28, 29, 30, 31, 32, 33, 34, 35, 36, 38], [0, 1, 2, 3, 4, 5, 6, 7, 8, 9, 10, 11, 12, 13, 14, 15, 16, 17, 18, 19, 20, 21, 22, 23, 24, 25, 26, 27, 28, 29, 30, 31, 32, 33, 34, 35, 36, 37, 38, 39], [0, 1, 2, 3, 4, 5, 6, 7, 8, 9, 10, 11, 12, 13, 14, 15, 16, 17, 18, 19, 20, 21, 22, 23, 24, 25, 26, 27, 28, 29, 30, 31, 32, 33, 34, 35, 36, 37, 38, 39, 40], [0, 1, 2, 3, 4, 5, 6, 7, 8, 9, 10, 11, 12, 13, 14, 15, 16, 17, 18, 19, 20, 21, 22, 23, 24, 25, 26, 27, 28, 29, 30, 31, 32, 33, 34, 35, 36, 37, 38, 39, 40, 41], [0, 1, 2, 3, 4, 5, 6, 7, 8, 9, 10, 11, 12, 13, 14, 15, 16, 17, 18, 19, 20, 21, 22, 23, 24, 25, 26, 27, 28, 29, 30, 31, 32, 33, 34, 35, 36, 37, 38, 39, 40, 41, 42], [0, 1, 2, 3, 4, 5, 6, 7, 8, 9, 10, 11, 12, 13, 14, 15, 16, 17, 18, 19, 20, 21, 22, 23, 24, 25, 26, 27, 28, 29, 30, 31, 32, 33, 34, 35, 36, 37, 38, 39, 40, 41, 42, 43], [0, 1, 2, 3, 4, 5, 6, 7, 8, 9, 10, 11, 12, 13, 14, 15, 16, 17, 18, 19, 20, 21, 22, 23, 24, 25, 26, 27, 28, 29, 30, 31, 32, 33, 34, 35, 36, 37, 38, 39, 40, 41, 42, 43, 44], [0, 1, 2, 3, 4, 5, 6, 7, 8, 9, 10, 11, 12, 13, 14, 15, 16, 17, 18, 19, 20, 21, 22, 23, 24, 25, 26, 27, 28, 29, 30, 31, 32, 33, 34, 35, 36, 37, 38, 39, 40, 41, 42, 43, 44, 45], [0, 1, 2, 3, 4, 5, 6, 7, 8, 9, 10, 11, 12, 13, 14, 15, 16, 17, 18, 19, 20, 21, 22, 23, 24, 25, 26, 27, 28, 29, 30, 31, 32, 33, 34, 35, 36, 37, 38, 39, 40, 41, 42, 43, 44, 45, 46], [0, 1, 2, 3, 4, 5, 6, 7, 8, 9, 10, 11, 12, 13, 14, 15, 16, 17, 18, 19, 20, 21, 22, 23, 24, 25, 26, 27, 28, 29, 30, 31, 32, 33, 34, 35, 36, 37, 38, 39, 40, 41, 42, 43, 44, 45, 46, 47], [0, 1, 2, 3, 4, 5, 6, 7, 8, 9, 10, 11, 12, 13, 14, 15, 16, 17, 18, 19, 20, 21, 22, 23, 24, 25, 26, 27, 28, 29, 30, 31, 32, 33, 34, 35, 36, 37, 38, 39, 40, 41, 42, 43, 44, 45, 46, 47, 48], [0, 1, 2, 3, 4, 5, 6, 7, 8, 9, 10, 11, 12, 13, 14, 15, 16, 17, 18, 19, 20, 21, 22, 23, 24, 25, 26, 27, 28, 29, 30, 31, 32, 33, 34, 35, 36, 37, 38, 39, 40, 41, 42, 43, 44, 45, 46, 47, 48, 49], [0, 1, 2, 3, 4, 5, 6, 7, 8, 9, 10, 11, 12, 13, 14, 15, 16, 17, 18, 19, 20, 21, 22, 23, 24, 25, 26, 27, 28, 29, 30, 31, 32, 33, 34, 35, 36, 37, 38, 39, 40, 41, 42, 43, 44, 45, 46, 47, 48, 49, 50], [0, 1, 2, 3, 4, 5, 6, 7, 8, 9, 10, 11, 12, 13, 14, 15, 16, 17, 18, 19, 20, 21, 22, 23, 24, 25, 26, 27, 28, 29, 30, 31, 32, 33, 34, 35, 36, 37, 38, 39, 40, 41, 42, 43, 44, 45, 46, 47, 48, 49, 50, 51], [0, 1, 2, 3, 4, 5, 6, 7, 8, 9, 10, 11, 12, 13, 14, 15, 16, 17, 18, 19, 20, 21, 22, 23, 24, 25, 26, 27, 28, 29, 30, 31, 32, 33, 34, 35, 36, 37, 38, 39, 40, 41, 42, 43, 44, 45, 46, 47, 48, 49, 50, 51, 52], [0, 1, 2, 3, 4, 5, 6, 7, 8, 9, 10, 11, 12, 13, 14, 15, 16, 17, 18, 19, 20, 21, 22, 23, 24, 25, 26, 27, 28, 29, 30, 31, 32, 33, 34, 35, 36, 37, 38, 39, 40, 41, 42, 43, 44, 45, 46, 47, 48, 49, 50, 51, 52, 53], [0, 1, 2, 3, 4, 5, 6, 7, 8, 9, 10, 11, 12, 13, 14, 15, 16, 17, 18, 19, 20, 21, 22, 23, 24, 25, 26, 27, 28, 29, 30, 31, 32, 33, 34, 35, 36, 37, 38, 39, 40, 41, 42, 43, 44, 45, 46, 47, 48, 49, 50, 51, 52, 53, 54], [0, 1, 2, 3, 4, 5, 6, 7, 8, 9, 10, 11, 12, 13, 14, 15, 16, 17, 18, 19, 20, 21, 22, 23, 24, 25, 26, 27, 28, 29, 30, 31, 32, 33, 34, 35, 36, 37, 38, 39, 40, 41, 42, 43, 44, 45, 46, 47, 48, 49, 50, 51, 52, 53, 54, 55], [0, 1, 2, 3, 4, 5, 6, 7, 8, 9, 10, 11, 12, 13, 14, 15, 16, 17, 18, 19, 20, 21, 22, 23, 24, 25, 26, 27, 28, 29, 30, 31, 32, 33, 34, 35, 36, 37, 38, 39, 40, 41, 42, 43, 44, 45, 46, 47, 48, 49, 50, 51, 52, 53, 54, 55, 56], [0, 1, 2, 3, 4, 5, 6, 7, 8, 9, 10, 11, 12, 13, 14, 15, 16, 17, 18, 19, 20, 21, 22, 23, 24, 25, 26, 27, 28, 29, 30, 31, 32, 33, 34, 35, 36, 37, 38, 39, 40, 41, 42, 43, 44, 45, 46, 47, 48, 49, 50, 51, 52, 53, 54, 55, 56, 57], [0, 1, 2, 3, 4, 5, 6, 7, 8, 9, 10, 11, 12, 13, 14, 15, 16, 17, 18, 19, 20, 21, 22, 23, 24, 25, 26, 27, 28, 29, 30, 31, 32, 33, 34, 35, 36, 37, 38, 39, 40, 41, 42, 43, 44, 45, 46, 47, 48, 49, 50, 51, 52, 53, 54, 55, 56, 57, 58], [0, 1, 2, 3, 4, 5, 6, 7, 8, 9, 10, 11, 12, 13, 14, 15, 16, 17, 18, 19, 20, 21, 22, 23, 24, 25, 26, 27, 28, 29, 30, 31, 32, 33, 34, 35, 36, 37, 38, 39, 40, 41, 42, 43, 44, 45, 46, 47, 48, 49, 50, 51, 52, 53, 54, 55, 56, 57, 58, 59], [0, 1, 2, 3, 4, 5, 6, 7, 8, 9, 10, 11, 12, 13, 14, 15, 16, 17, 18, 19, 20, 21, 22, 23, 24, 25, 26, 27, 28, 29, 30, 31, 32, 33, 34, 35, 36, 37, 38, 39, 40, 41, 42, 43, 44, 45, 46, 47, 48, 49, 50, 51, 52, 53, 54, 55, 56, 57, 58, 59, 60], [0, 1, 2, 3, 4, 5, 6, 7, 8, 9, 10, 11, 12, 13, 14, 15, 16, 17, 18, 19, 20, 21, 22, 23, 24, 25, 26, 27, 28, 29, 30, 31, 32, 33, 34, 35, 36, 37, 38, 39, 40, 41, 42, 43, 44, 45, 46, 47, 48, 49, 50, 51, 52, 53, 54, 55, 56, 57, 58, 59, 60, 61], [0, 1, 2, 3, 4, 5, 6, 7, 8, 9, 10, 11, 12, 13, 14, 15, 16, 17, 18, 19, 20, 21, 22, 23, 24, 25, 26, 27, 28, 29, 30, 31, 32, 33, 34, 35, 36, 37, 38, 39, 40, 41, 42, 43, 44, 45, 46, 47, 48, 49, 50, 51, 52, 53, 54, 55, 56, 57, 58, 59, 60, 61, 62], [0, 1, 2, 3, 4, 5, 6, 7, 8, 9, 10, 11, 12, 13, 14, 15, 16, 17, 18, 19, 20, 21, 22, 23, 24, 25, 26, 27, 28, 29, 30, 31, 32, 33, 34, 35, 36, 37, 38, 39, 40, 41, 42, 43, 44, 45, 46, 47, 48, 49, 50, 51, 52, 53, 54, 55, 56, 57, 58, 59, 60, 61, 62, 63], [0, 1, 2, 3, 4, 5, 6, 7, 8, 9, 10, 11, 12, 13, 14, 15, 16, 17, 18, 19, 20, 21, 22, 23, 24, 25, 26, 27, 28, 29, 30, 31, 32, 33, 34, 35, 36, 37, 38, 39, 40, 41, 42, 43, 44, 45, 46, 47, 48, 49, 50, 51, 52, 53, 54, 55, 56, 57, 58, 59, 60, 61, 62, 63, 64], [0, 1, 2, 3, 4, 5, 6, 7, 8, 9, 10, 11, 12, 13, 14, 15, 16, 17, 18, 19, 20, 21, 22, 23, 24, 25, 26, 27, 28, 29, 30, 31, 32, 33, 34, 35, 36, 37, 38, 39, 40, 41, 42, 43, 44, 45, 46, 47, 48, 49, 50, 51, 52, 53, 54, 55, 56, 57, 58, 59, 60, 61, 62, 63, 64, 65]] (by kernel_rfl) (by kernel_rfl) (by kernel_rfl) (by kernel_rfl) [0] [] (by kernel_rfl)
          ⟨⟨⟨⟨⟨⟨⟨⟨⟨⟨⟨⟨⟨⟨⟨⟨⟨⟨⟨⟨⟨⟨⟨⟨⟨⟨⟨⟨⟨⟨⟨⟨⟨⟨⟨⟨⟨⟨⟨⟨⟨⟨⟨⟨⟨⟨⟨⟨⟨⟨⟨⟨⟨⟨⟨⟨⟨⟨⟨⟨⟨⟨⟨⟨⟨⟨⟨trivial,
          tri_quietW (fun β => []) [] [] (fun β => []) (by kernel_rfl) (fun β extra => by kernel_rfl) (by kernel_rfl) (fun β => trivial)⟩,
          tri_callVW (fun β => .bool true) (fun β => by kernel_rfl) 19 (fun β => #[]) (by kernel_rfl) (fun β extra => by kernel_rfl) (fun β => by kernel_rfl) (fun β w1 k1 h1 => alive_any w1)⟩,
          tri_quietW (fun β => []) [] [] (fun β => []) (by kernel_rfl) (fun β extra => by kernel_rfl) (by kernel_rfl) (fun β => trivial)⟩,
          tri_quietW (fun β => []) [] [] (fun β => []) (by kernel_rfl) (fun β extra => by kernel_rfl) (by kernel_rfl) (fun β => trivial)⟩,
          tri_quietW (fun β => []) [0] [0] (fun β => [(pA b3, pA b3)]) (by kernel_rfl) (fun β extra => by kernel_rfl) (by kernel_rfl) (fun β => ⟨rfl, trivial⟩)⟩,
          tri_callVW (fun β => .agg #[iV 0, iV 0]) (fun β => by kernel_rfl) 10 (fun β => #[iV 0, iV 0]) (by kernel_rfl) (fun β extra => by kernel_rfl) (fun β => by kernel_rfl) (fun β w1 k1 h1 => span_any 0 0 w1)⟩,
          tri_vVW (fun β => .bool true) (fun β => by kernel_rfl) (fun β => ((do eqGuard .eql 23 (.tmp 97) (.tmp 98) (.agg #[iV 0, iV 0]) (.agg #[iV 0, iV 0]); binOp .eql 23 (.agg #[iV 0, iV 0]) (.agg #[iV 0, iV 0])) >>= fun v => pure (Next.value v))) (by kernel_rfl) (fun β extra => by kernel_rfl) (fun β => by kernel_rfl) (fun β w1 k1 h1 => eq_span (.tmp 97) (.tmp 98) 0 0 0 0 w1)⟩,
          tri_quietW (fun β => []) [] [] (fun β => []) (by kernel_rfl) (fun β extra => by kernel_rfl) (by kernel_rfl) (fun β => trivial)⟩,
          tri_quietW (fun β => []) [] [] (fun β => []) (by kernel_rfl) (fun β extra => by kernel_rfl) (by kernel_rfl) (fun β => trivial)⟩,
          tri_quietW (fun β => []) [] [] (fun β => []) (by kernel_rfl) (fun β extra => by kernel_rfl) (by kernel_rfl) (fun β => trivial)⟩,
          tri_quietW (fun β => [(103, .bool true)]) [] [] (fun β => [(.bool true, .bool true)]) (by kernel_rfl) (fun β extra => by kernel_rfl) (by kernel_rfl) (fun β => ⟨rfl, trivial⟩)⟩,
          tri_quietW (fun β => []) [] [] (fun β => []) (by kernel_rfl) (fun β extra => by kernel_rfl) (by kernel_rfl) (fun β => trivial)⟩,
          tri_quietW (fun β => []) [] [] (fun β => []) (by kernel_rfl) (fun β extra => by kernel_rfl) (by kernel_rfl) (fun β => trivial)⟩,
          tri_quietW (fun β => []) [] [] (fun β => []) (by kernel_rfl) (fun β extra => by kernel_rfl) (by kernel_rfl) (fun β => trivial)⟩,
          tri_quietW (fun β => [(107, .bool true)]) [] [] (fun β => [(.bool true, .bool true)]) (by kernel_rfl) (fun β extra => by kernel_rfl) (by kernel_rfl) (fun β => ⟨rfl, trivial⟩)⟩,
          tri_quietW (fun β => []) [] [] (fun β => []) (by kernel_rfl) (fun β extra => by kernel_rfl) (by kernel_rfl) (fun β => trivial)⟩,
          tri_quietW (fun β => []) [] [] (fun β => []) (by kernel_rfl) (fun β extra => by kernel_rfl) (by kernel_rfl) (fun β => trivial)⟩,
          tri_quietW (fun β => []) [] [] (fun β => []) (by kernel_rfl) (fun β extra => by kernel_rfl) (by kernel_rfl) (fun β => trivial)⟩,
          tri_quietW (fun β => [(111, .bool true)]) [] [] (fun β => [(.bool true, .bool true)]) (by kernel_rfl) (fun β extra => by kernel_rfl) (by kernel_rfl) (fun β => ⟨rfl, trivial⟩)⟩,
          tri_quietW (fun β => []) [] [] (fun β => []) (by kernel_rfl) (fun β extra => by kernel_rfl) (by kernel_rfl) (fun β => trivial)⟩,
          tri_quietW (fun β => []) [] [] (fun β => []) (by kernel_rfl) (fun β extra => by kernel_rfl) (by kernel_rfl) (fun β => trivial)⟩,
          tri_quietW (fun β => []) [] [] (fun β => []) (by kernel_rfl) (fun β extra => by kernel_rfl) (by kernel_rfl) (fun β => trivial)⟩,
          tri_quietW (fun β => [(115, .bool true)]) [] [] (fun β => [(.bool true, .bool true)]) (by kernel_rfl) (fun β extra => by kernel_rfl) (by kernel_rfl) (fun β => ⟨rfl, trivial⟩)⟩,
          tri_quietW (fun β => []) [] [] (fun β => []) (by kernel_rfl) (fun β extra => by kernel_rfl) (by kernel_rfl) (fun β => trivial)⟩,
          tri_quietW (fun β => []) [] [] (fun β => []) (by kernel_rfl) (fun β extra => by kernel_rfl) (by kernel_rfl) (fun β => trivial)⟩,
          tri_quietW (fun β => []) [] [] (fun β => []) (by kernel_rfl) (fun β extra => by kernel_rfl) (by kernel_rfl) (fun β => trivial)⟩,
          tri_quietW (fun β => [(119, .bool true)]) [] [] (fun β => [(.bool true, .bool true)]) (by kernel_rfl) (fun β extra => by kernel_rfl) (by kernel_rfl) (fun β => ⟨rfl, trivial⟩)⟩,
          tri_quietW (fun β => []) [] [] (fun β => []) (by kernel_rfl) (fun β extra => by kernel_rfl) (by kernel_rfl) (fun β => trivial)⟩,
          tri_quietW (fun β => []) [] [] (fun β => []) (by kernel_rfl) (fun β extra => by kernel_rfl) (by kernel_rfl) (fun β => trivial)⟩,
          tri_quietW (fun β => []) [] [] (fun β => []) (by kernel_rfl) (fun β extra => by kernel_rfl) (by kernel_rfl) (fun β => trivial)⟩,
          tri_quietW (fun β => [(123, .bool true)]) [] [] (fun β => [(.bool true, .bool true)]) (by kernel_rfl) (fun β extra => by kernel_rfl) (by kernel_rfl) (fun β => ⟨rfl, trivial⟩)⟩,
          tri_quietW (fun β => []) [] [] (fun β => []) (by kernel_rfl) (fun β extra => by kernel_rfl) (by kernel_rfl) (fun β => trivial)⟩,
          tri_quietW (fun β => []) [] [] (fun β => []) (by kernel_rfl) (fun β extra => by kernel_rfl) (by kernel_rfl) (fun β => trivial)⟩,
          tri_quietW (fun β => []) [] [] (fun β => []) (by kernel_rfl) (fun β extra => by kernel_rfl) (by kernel_rfl) (fun β => trivial)⟩,
          tri_quietW (fun β => [(127, .bool true)]) [] [] (fun β => [(.bool true, .bool true)]) (by kernel_rfl) (fun β extra => by kernel_rfl) (by kernel_rfl) (fun β => ⟨rfl, trivial⟩)⟩,
          tri_quietW (fun β => []) [] [] (fun β => []) (by kernel_rfl) (fun β extra => by kernel_rfl) (by kernel_rfl) (fun β => trivial)⟩,
          tri_quietW (fun β => []) [] [] (fun β => []) (by kernel_rfl) (fun β extra => by kernel_rfl) (by kernel_rfl) (fun β => trivial)⟩,
          tri_quietW (fun β => []) [] [] (fun β => []) (by kernel_rfl) (fun β extra => by kernel_rfl) (by kernel_rfl) (fun β => trivial)⟩,
          tri_callVW (fun β => .agg #[iV 7, iV 12]) (fun β => by kernel_rfl) 10 (fun β => #[iV 7, iV 12]) (by kernel_rfl) (fun β extra => by kernel_rfl) (fun β => by kernel_rfl) (fun β w1 k1 h1 => span_any 7 12 w1)⟩,
          tri_newW 41 (fun β => aO #[iV 7, iV 12] 23) (fun β b => sV b 1 1) [0] (by kernel_rfl) (fun β extra b => by kernel_rfl) (by kernel_rfl) (fun β b => by kernel_rfl) (fun β b => by kernel_rfl) (fun β b => by kernel_rfl)⟩,
          tri_callVW (fun β => .bool true) (fun β => by kernel_rfl) 20 (fun β => #[sV rg8 1 rc8, .slice (some ⟨(β 41), 0, none⟩) 1 1]) (by kernel_rfl) (fun β extra => by kernel_rfl) (fun β => by kernel_rfl) (fun β w1 k1 h1 => (by have h := rspans_any ([(7, 12)] : List Sp) ([(7, 12)] : List Sp) (some ⟨rg8, 0, none⟩) (some ⟨(β 41), 0, none⟩) rc8 1 w1 (Sps.of_flat (L := [(7, 12)]) (sp := rsp8) (by exact (h1 (rg8, cO (([(7, 12)] : List Sp).flatMap spR ++ rsp8) 23) (List.mem_of_getElem? (i := 0) (by kernel_rfl))))) (Sps.of_flat (L := [(7, 12)]) (sp := []) (by exact (h1 ((β 41), aO #[iV 7, iV 12] 23) (List.mem_of_getElem? (i := 1) (by kernel_rfl))))) (by decide); rw [show eqSps ([(7, 12)] : List Sp) ([(7, 12)] : List Sp) = true from by kernel_rfl] at h; exact h))⟩,
          tri_quietW (fun β => []) [] [] (fun β => []) (by kernel_rfl) (fun β extra => by kernel_rfl) (by kernel_rfl) (fun β => trivial)⟩,
          tri_quietW (fun β => []) [] [] (fun β => []) (by kernel_rfl) (fun β extra => by kernel_rfl) (by kernel_rfl) (fun β => trivial)⟩,
          tri_quietW (fun β => []) [] [] (fun β => []) (by kernel_rfl) (fun β extra => by kernel_rfl) (by kernel_rfl) (fun β => trivial)⟩,
          tri_quietW (fun β => [(137, .bool true)]) [] [] (fun β => [(.bool true, .bool true)]) (by kernel_rfl) (fun β extra => by kernel_rfl) (by kernel_rfl) (fun β => ⟨rfl, trivial⟩)⟩,
          tri_quietW (fun β => []) [] [] (fun β => []) (by kernel_rfl) (fun β extra => by kernel_rfl) (by kernel_rfl) (fun β => trivial)⟩,
          tri_quietW (fun β => []) [] [] (fun β => []) (by kernel_rfl) (fun β extra => by kernel_rfl) (by kernel_rfl) (fun β => trivial)⟩,
          tri_quietW (fun β => []) [] [] (fun β => []) (by kernel_rfl) (fun β extra => by kernel_rfl) (by kernel_rfl) (fun β => trivial)⟩,
          tri_quietW (fun β => [(141, .bool true)]) [] [] (fun β => [(.bool true, .bool true)]) (by kernel_rfl) (fun β extra => by kernel_rfl) (by kernel_rfl) (fun β => ⟨rfl, trivial⟩)⟩,
          tri_quietW (fun β => []) [] [] (fun β => []) (by kernel_rfl) (fun β extra => by kernel_rfl) (by kernel_rfl) (fun β => trivial)⟩,
          tri_quietW (fun β => []) [] [] (fun β => []) (by kernel_rfl) (fun β extra => by kernel_rfl) (by kernel_rfl) (fun β => trivial)⟩,
          tri_quietW (fun β => []) [] [] (fun β => []) (by kernel_rfl) (fun β extra => by kernel_rfl) (by kernel_rfl) (fun β => trivial)⟩,
          tri_quietW (fun β => [(145, .bool true)]) [] [] (fun β => [(.bool true, .bool true)]) (by kernel_rfl) (fun β extra => by kernel_rfl) (by kernel_rfl) (fun β => ⟨rfl, trivial⟩)⟩,
          tri_quietW (fun β => []) [] [] (fun β => []) (by kernel_rfl) (fun β extra => by kernel_rfl) (by kernel_rfl) (fun β => trivial)⟩,
          tri_quietW (fun β => []) [] [] (fun β => []) (by kernel_rfl) (fun β extra => by kernel_rfl) (by kernel_rfl) (fun β => trivial)⟩,
          tri_quietW (fun β => []) [] [] (fun β => []) (by kernel_rfl) (fun β extra => by kernel_rfl) (by kernel_rfl) (fun β => trivial)⟩,
          tri_quietW (fun β => [(149, .bool true)]) [] [] (fun β => [(.bool true, .bool true)]) (by kernel_rfl) (fun β extra => by kernel_rfl) (by kernel_rfl) (fun β => ⟨rfl, trivial⟩)⟩,
          tri_quietW (fun β => []) [] [] (fun β => []) (by kernel_rfl) (fun β extra => by kernel_rfl) (by kernel_rfl) (fun β => trivial)⟩,
          tri_quietW (fun β => []) [] [] (fun β => []) (by kernel_rfl) (fun β extra => by kernel_rfl) (by kernel_rfl) (fun β => trivial)⟩,
          tri_quietW (fun β => []) [] [] (fun β => []) (by kernel_rfl) (fun β extra => by kernel_rfl) (by kernel_rfl) (fun β => trivial)⟩,
          tri_quietW (fun β => [(153, .bool true)]) [] [] (fun β => [(.bool true, .bool true)]) (by kernel_rfl) (fun β extra => by kernel_rfl) (by kernel_rfl) (fun β => ⟨rfl, trivial⟩)⟩,
          tri_quietW (fun β => []) [] [] (fun β => []) (by kernel_rfl) (fun β extra => by kernel_rfl) (by kernel_rfl) (fun β => trivial)⟩,
          tri_quietW (fun β => []) [] [] (fun β => []) (by kernel_rfl) (fun β extra => by kernel_rfl) (by kernel_rfl) (fun β => trivial)⟩,
          tri_quietW (fun β => []) [] [] (fun β => []) (by kernel_rfl) (fun β extra => by kernel_rfl) (by kernel_rfl) (fun β => trivial)⟩,
          tri_quietW (fun β => [(157, .bool true)]) [] [] (fun β => [(.bool true, .bool true)]) (by kernel_rfl) (fun β extra => by kernel_rfl) (by kernel_rfl) (fun β => ⟨rfl, trivial⟩)⟩,
          tri_quietW (fun β => []) [] [] (fun β => []) (by kernel_rfl) (fun β extra => by kernel_rfl) (by kernel_rfl) (fun β => trivial)⟩,
          tri_quietW (fun β => []) [] [] (fun β => []) (by kernel_rfl) (fun β extra => by kernel_rfl) (by kernel_rfl) (fun β => trivial)⟩
          (fun β => ⟨[(0, .bool true)], []⟩) (fun β => by kernel_rfl) (fun β12 => ?_)
    refine run_end (fn := f3) rfl (Nat.le_refl _) (by kernel_rfl) [] [.bool true] (e := []) (by kernel_rfl) trivial (fun w1 k1 h1 => ?_)
    exact ⟨rfl, k1.keeps (fun _ h => h)⟩

end Go.Proofs.Ytfjfkaaflghaiaa
