/-
  REF: after, After, Fits.
  REF: After, Fits, Below.
  REF: Lost.
-/
import Derived.Test.YtdjnkdelmmpleaaGreatGk
import Derived.Test.YtdjnkdelmmpleaaGreatGg
namespace Go.Proofs.YtdjnkdelmmpleaaGreat
open Go.RowKit Go.Proofs.Tryz

set_option maxRecDepth 100000 in
theorem rafter_any (p : Wb) (k : Nat) (w : World) (hp : p.In w) (hF : p.n.Fine) (hcan : p.n.can = true) (hk : k ≤ p.es.length) : Calls Tryz.prog 48 #[.agg #[.int .i64 p.ll, .int .i64 p.lh, .int .i64 p.ul, .int .i64 p.uh, .slice p.ea p.es.length p.ec], .int .i64 (k : Int)] w (Ret (.agg #[.int .i64 (mC p.n k).1, .int .i64 (mC p.n k).2]) w) := by
  have hn8 : p.es.length ≤ 8 := hF.n8
  have hal := all_lt hF
  have hl0 : 0 ≤ p.ll ∧ p.ll ≤ p.lh ∧ p.lh ≤ 300 := hF.l
  have hsub := mC_sub hF hcan hk
  have hCp := mC_poss hF hcan hk
  have hsB := rn_bd hF p.all k 0 (p.ll, p.lh) 1000 (by omega) (by omega) (by unfold bdS; dsimp only; omega)
  obtain ⟨s0, hs0⟩ : ∃ s, rnF (p.ul, p.uh) p.es p.all k 0 (p.ll, p.lh) = s := ⟨_, rfl⟩
  obtain ⟨C, hC0⟩ : ∃ C, mC p.n k = C := ⟨_, rfl⟩
  rw [hs0] at hsub hsB
  rw [hC0] at hsub hCp
  have hsb := hsub
  unfold bdS at hsB
  rw [hC0]
  refine calls_run (fn := f48) (c := (f48.body).getD .skip) [.agg #[.int .i64 p.ll, .int .i64 p.lh, .int .i64 p.ul, .int .i64 p.uh, .slice p.ea p.es.length p.ec], .int .i64 (k : Int)] func48 (by kernel_rfl) (fun _ => False) [] (fun _ h => by cases h) (List.Pairwise.nil) 49 (by kernel_rfl) (by simp) ?_
  refine run_auto [] 2 [] [] [0, 1] [] (st' := ⟨[(0, .agg #[iV p.ll, iV p.lh, iV p.ul, iV p.uh, .slice p.ea p.es.length p.ec]), (1, iV (k : Int))], []⟩) (acc := []) (by kernel_rfl) (by kernel_rfl) trivial ?_
  refine run_new (aO #[iV p.ll, iV p.lh, iV p.ul, iV p.uh, .slice p.ea p.es.length p.ec] 26) (fun b1 => pA b1) (some 2) (fun _ => by kernel_rfl) (fun b1 hb1 => ?_)
  refine run_new (aO #[iV 0, iV 0] 23) (fun b2 => pA b2) (some 4) (fun _ => by kernel_rfl) (fun b2 hb2 => ?_)
  refine run_auto [] 2 [] [] [1, 2, 4] [0, 1] (st' := ⟨[(1, iV (k : Int)), (2, pA b1), (4, pA b2)], [(b2, aO #[iV 0, iV 0] 23), (b1, aO #[iV p.ll, iV p.lh, iV p.ul, iV p.uh, .slice p.ea p.es.length p.ec] 26)]⟩) (acc := []) (by kernel_rfl) (by kernel_rfl) trivial ?_
  refine drawW 9 [{ val := fun _ => .agg #[iV p.ll, iV p.lh, iV p.ul, iV p.uh, .slice p.ea p.es.length p.ec], slots := [2], reads := [1] },
      { val := fun _ => pA b1, slots := [2] },
      { val := fun _ => .agg #[iV p.ll, iV p.lh], slots := [11], reads := [1] },
      { val := fun _ => iV (k : Int), slots := [1] },
      { val := fun _ => .agg #[iV p.ll, iV p.lh, iV p.ul, iV p.uh, .slice p.ea p.es.length p.ec], slots := [2], reads := [1] },
      { val := fun _ => iV (p.all : Int), slots := [14] },
      { val := fun _ => .agg #[iV s0.1, iV s0.2], slots := [10, 12, 13, 15] },
      { names := [9], val := fun l => .pointer (some ⟨(l.getD 0 0), 0, none⟩), upd := [(9, fun l => aO #[iV 0, iV 0] 23)], news := [9] },
      { upd := [(9, fun l => aO #[iV s0.1, iV s0.2] 23)], slots := [5, 16], reads := [9] }] [[], [], [1], [], [], [4], [0, 1, 2, 3, 4, 5], [], [0, 1, 2, 3, 4, 5, 6, 7]] (by kernel_rfl) (by kernel_rfl) (by kernel_rfl) (by kernel_rfl) [1, 2, 4, 5] [0, 1, 9] (by kernel_rfl)
      ⟨⟨⟨⟨⟨⟨⟨⟨⟨trivial,
      tri_quietW (fun β => []) [0] [0] (fun β => [(pA b1, pA b1)]) (by kernel_rfl) (fun β extra => by kernel_rfl) (by kernel_rfl) (fun β => ⟨rfl, trivial⟩)⟩,
      tri_quietW (fun β => []) [] [] (fun β => []) (by kernel_rfl) (fun β extra => by kernel_rfl) (by kernel_rfl) (fun β => trivial)⟩,
      tri_quietW (fun β => []) [0] [0] (fun β => [(pA b1, pA b1)]) (by kernel_rfl) (fun β extra => by kernel_rfl) (by kernel_rfl) (fun β => ⟨rfl, trivial⟩)⟩,
      tri_quietW (fun β => []) [] [] (fun β => []) (by kernel_rfl) (fun β extra => by kernel_rfl) (by kernel_rfl) (fun β => trivial)⟩,
      tri_quietW (fun β => []) [0] [0] (fun β => [(pA b1, pA b1)]) (by kernel_rfl) (fun β extra => by kernel_rfl) (by kernel_rfl) (fun β => ⟨rfl, trivial⟩)⟩,
      tri_callVW (fun β => iV (p.all : Int)) (fun β => by kernel_rfl) 52 (fun β => #[.agg #[iV p.ll, iV p.lh, iV p.ul, iV p.uh, .slice p.ea p.es.length p.ec]]) (by kernel_rfl) (fun β extra => by kernel_rfl) (fun β => by kernel_rfl) (fun β w1 k1 h1 => every_any p w1 hn8)⟩,
      tri_callVW (fun β => .agg #[iV s0.1, iV s0.2]) (fun β => by kernel_rfl) 51 (fun β => #[.agg #[iV p.ll, iV p.lh, iV p.ul, iV p.uh, .slice p.ea p.es.length p.ec], .agg #[iV p.ll, iV p.lh], iV 0, iV (k : Int), iV (p.all : Int)]) (by kernel_rfl) (fun β extra => by kernel_rfl) (fun β => by kernel_rfl) (fun β w1 k1 h1 => run_any p (p.ll, p.lh) s0 0 k p.all w1 (hp.keep (k1.keeps (fun _ h => h))) hF (by omega) (by omega) (by omega) (by unfold bdS; dsimp only; omega) hs0)⟩,
      tri_newW 9 (fun β => aO #[iV 0, iV 0] 23) (fun β b => pA b) [0] (by kernel_rfl) (fun β extra b => by kernel_rfl) (by kernel_rfl) (fun β b => by kernel_rfl) (fun β b => by kernel_rfl) (fun β b => by kernel_rfl)⟩,
      tri_quietW (fun β => []) [0] [0] (fun β => [(.pointer (some ⟨(β 9), 0, none⟩), .pointer (some ⟨(β 9), 0, none⟩))]) (by kernel_rfl) (fun β extra => by kernel_rfl) (by kernel_rfl) (fun β => ⟨rfl, trivial⟩)⟩
      (fun β => ⟨[(1, iV (k : Int)), (2, pA b1), (4, pA b2), (5, .pointer (some ⟨(β 9), 0, none⟩))], [(b2, aO #[iV 0, iV 0] 23), (b1, aO #[iV p.ll, iV p.lh, iV p.ul, iV p.uh, .slice p.ea p.es.length p.ec] 26), ((β 9), aO #[iV s0.1, iV s0.2] 23)]⟩) (fun β => by kernel_rfl) (fun β3 => ?_)
  refine run_auto [] 3 [] [] [1, 2, 4, 5, 17] [0, 1, 2] (st' := ⟨[(1, iV (k : Int)), (2, pA b1), (4, pA b2), (5, .pointer (some ⟨(β3 9), 0, none⟩)), (17, .agg #[iV 0, iV 0])], [(b2, aO #[iV 0, iV 0] 23), (b1, aO #[iV p.ll, iV p.lh, iV p.ul, iV p.uh, .slice p.ea p.es.length p.ec] 26), ((β3 9), aO #[iV s0.1, iV s0.2] 23)]⟩) (acc := []) (by kernel_rfl) (by kernel_rfl) trivial ?_
  refine run_new (aO #[iV 0, iV 0] 23) (fun b4 => pA b4) (some 6) (fun _ => by kernel_rfl) (fun b4 hb4 => ?_)
  refine run_auto [] 11 [] [0, 3] [1, 2, 4, 5, 6, 7, 8] [0, 1, 2, 3] (st' := ⟨[(1, iV (k : Int)), (2, pA b1), (4, pA b2), (5, .pointer (some ⟨(β3 9), 0, none⟩)), (6, pA b4), (7, .bool false), (8, iV s0.1)], [(b4, aO #[iV 0, iV 0] 23), (b2, aO #[iV 0, iV 0] 23), (b1, aO #[iV p.ll, iV p.lh, iV p.ul, iV p.uh, .slice p.ea p.es.length p.ec] 26), ((β3 9), aO #[iV s0.1, iV s0.2] 23)]⟩) (acc := [(.pointer (some ⟨(β3 9), 0, none⟩), .pointer (some ⟨(β3 9), 0, none⟩)), (pA b4, pA b4)]) (by kernel_rfl) (by kernel_rfl) ⟨rfl, rfl, trivial⟩ ?_
  refine run_auto [] 0 [] [] [1, 2, 4, 5, 6, 7, 8] [0, 1, 2, 3] (st' := ⟨[(1, iV (k : Int)), (2, pA b1), (4, pA b2), (5, .pointer (some ⟨(β3 9), 0, none⟩)), (6, pA b4), (7, .bool false), (8, iV s0.1)], [(b4, aO #[iV 0, iV 0] 23), (b2, aO #[iV 0, iV 0] 23), (b1, aO #[iV p.ll, iV p.lh, iV p.ul, iV p.uh, .slice p.ea p.es.length p.ec] 26), ((β3 9), aO #[iV s0.1, iV s0.2] 23)]⟩) (acc := []) (by kernel_rfl) (by kernel_rfl) trivial ?_
  refine run_loop (S := fun (n : Int) => ⟨[(1, iV (k : Int)), (2, pA b1), (4, pA b2), (5, .pointer (some ⟨(β3 9), 0, none⟩)), (6, pA b4), (7, .bool (decide (C.1 < n))), (8, iV n)], [(b4, aO #[iV (aftS C n).1, iV (aftS C n).2] 23), (b2, aO #[iV 0, iV 0] 23), (b1, aO #[iV p.ll, iV p.lh, iV p.ul, iV p.uh, .slice p.ea p.es.length p.ec] 26), ((β3 9), aO #[iV s0.1, iV s0.2] 23)]⟩) (fun n => s0.1 ≤ n ∧ n ≤ s0.2 + 1) (fun n => (s0.2 + 1 - n).toNat) (s0.1) (by kernel_rfl) (⟨Int.le_refl _, by omega⟩) (by rw [aft_le hsb.1, show decide (C.1 < s0.1) = false from decide_eq_false (by omega)]) (fun n hI0 J0 hJ0 => ?_)
  obtain ⟨hn1, hn2⟩ := hI0
  obtain ⟨X, hX⟩ : ∃ X, rnF (p.ul, p.uh) p.es p.all (p.es.length - k) k (n, n) = X := ⟨_, rfl⟩
  have hat := aft_at hF hk n
  rw [hs0, hX, hC0] at hat
  unfold inP at hat
  cases hd1 : (decide (n ≤ s0.2)) with
  | false =>
    have hp1 := of_decide_eq_false hd1
    refine run_auto [(23, .bool false)] 15 [false] [3, 0, 1] [4] [1] (st' := ⟨[(4, pA b2)], [(b2, aO #[iV (aftS C n).1, iV (aftS C n).2] 23)]⟩) (acc := [(pA b2, pA b2), (pA b4, pA b4), (.bool false, .bool false), (.bool (decide (n ≤ s0.2)), .bool false), (.pointer (some ⟨(β3 9), 0, none⟩), .pointer (some ⟨(β3 9), 0, none⟩))]) (by kernel_rfl) (by kernel_rfl) ⟨rfl, rfl, rfl, (bo hd1), rfl, trivial⟩ ?_
    refine run_end (fn := f48) rfl (Nat.le_refl _) (by kernel_rfl) [0] [.agg #[iV (aftS C n).1, iV (aftS C n).2]] (e := [(pA b2, pA b2)]) (by kernel_rfl) ⟨rfl, trivial⟩ (fun w1 k1 h1 => ?_)
    have hq := aft_all hCp (n := n) (by omega)
    rw [hq]
    exact ⟨rfl, k1.keeps (fun _ h => h)⟩
  | true =>
    have hp1 := of_decide_eq_true hd1
    refine run_auto [(23, .bool true)] 13 [true] [3] [1, 2, 4, 5, 6, 7, 8] [0, 1, 2, 3] (st' := ⟨[(1, iV (k : Int)), (2, pA b1), (4, pA b2), (5, .pointer (some ⟨(β3 9), 0, none⟩)), (6, pA b4), (7, .bool (decide (C.1 < n))), (8, iV n)], [(b4, aO #[iV (aftS C n).1, iV (aftS C n).2] 23), (b2, aO #[iV 0, iV 0] 23), (b1, aO #[iV p.ll, iV p.lh, iV p.ul, iV p.uh, .slice p.ea p.es.length p.ec] 26), ((β3 9), aO #[iV s0.1, iV s0.2] 23)]⟩) (acc := [(.bool true, .bool true), (.bool (decide (n ≤ s0.2)), .bool true), (.pointer (some ⟨(β3 9), 0, none⟩), .pointer (some ⟨(β3 9), 0, none⟩))]) (by kernel_rfl) (by kernel_rfl) ⟨rfl, (bo hd1), rfl, trivial⟩ ?_
    refine drawW 13 [{ val := fun _ => .agg #[iV p.ll, iV p.lh, iV p.ul, iV p.uh, .slice p.ea p.es.length p.ec], slots := [2], reads := [2] },
          { val := fun _ => iV n, slots := [8] },
          { val := fun _ => iV n, slots := [8] },
          { val := fun _ => .agg #[iV n, iV n], slots := [27, 28] },
          { val := fun _ => iV (k : Int), slots := [1] },
          { val := fun _ => .pointer (some ⟨b1, 4, none⟩), slots := [2] },
          { val := fun _ => .slice p.ea p.es.length p.ec, slots := [31], reads := [2] },
          { val := fun _ => iV (p.es.length : Int), slots := [32] },
          { val := fun _ => .agg #[iV p.ll, iV p.lh, iV p.ul, iV p.uh, .slice p.ea p.es.length p.ec], slots := [2], reads := [2] },
          { val := fun _ => iV (p.all : Int), slots := [34] },
          { val := fun _ => .agg #[iV X.1, iV X.2], slots := [26, 29, 30, 33, 35] },
          { names := [15], val := fun l => .pointer (some ⟨(l.getD 0 0), 0, none⟩), upd := [(15, fun l => aO #[iV 0, iV 0] 23)], news := [15] },
          { upd := [(15, fun l => aO #[iV X.1, iV X.2] 23)], slots := [9, 36], reads := [15] }] [[], [], [], [1, 2], [], [], [5], [5, 6], [], [8], [0, 1, 2, 3, 4, 5, 6, 7, 8, 9], [], [0, 1, 2, 3, 4, 5, 6, 7, 8, 9, 10, 11]] (by kernel_rfl) (by kernel_rfl) (by kernel_rfl) (by kernel_rfl) [1, 2, 4, 5, 6, 7, 8, 9] [0, 1, 2, 3, 15] (by kernel_rfl)
          ⟨⟨⟨⟨⟨⟨⟨⟨⟨⟨⟨⟨⟨trivial,
          tri_quietW (fun β => []) [0] [0] (fun β => [(pA b1, pA b1)]) (by kernel_rfl) (fun β extra => by kernel_rfl) (by kernel_rfl) (fun β => ⟨rfl, trivial⟩)⟩,
          tri_quietW (fun β => []) [] [] (fun β => []) (by kernel_rfl) (fun β extra => by kernel_rfl) (by kernel_rfl) (fun β => trivial)⟩,
          tri_quietW (fun β => []) [] [] (fun β => []) (by kernel_rfl) (fun β extra => by kernel_rfl) (by kernel_rfl) (fun β => trivial)⟩,
          tri_quietW (fun β => []) [] [] (fun β => []) (by kernel_rfl) (fun β extra => by kernel_rfl) (by kernel_rfl) (fun β => trivial)⟩,
          tri_quietW (fun β => []) [] [] (fun β => []) (by kernel_rfl) (fun β extra => by kernel_rfl) (by kernel_rfl) (fun β => trivial)⟩,
          tri_quietW (fun β => []) [] [] (fun β => []) (by kernel_rfl) (fun β extra => by kernel_rfl) (by kernel_rfl) (fun β => trivial)⟩,
          tri_quietW (fun β => []) [0] [0] (fun β => [(pA b1, pA b1)]) (by kernel_rfl) (fun β extra => by kernel_rfl) (by kernel_rfl) (fun β => ⟨rfl, trivial⟩)⟩,
          tri_quietW (fun β => []) [] [] (fun β => []) (by kernel_rfl) (fun β extra => by kernel_rfl) (by kernel_rfl) (fun β => trivial)⟩,
          tri_quietW (fun β => []) [0] [0] (fun β => [(pA b1, pA b1)]) (by kernel_rfl) (fun β extra => by kernel_rfl) (by kernel_rfl) (fun β => ⟨rfl, trivial⟩)⟩,
          tri_callVW (fun β => iV (p.all : Int)) (fun β => by kernel_rfl) 52 (fun β => #[.agg #[iV p.ll, iV p.lh, iV p.ul, iV p.uh, .slice p.ea p.es.length p.ec]]) (by kernel_rfl) (fun β extra => by kernel_rfl) (fun β => by kernel_rfl) (fun β w1 k1 h1 => every_any p w1 hn8)⟩,
          tri_callVW (fun β => .agg #[iV X.1, iV X.2]) (fun β => by kernel_rfl) 51 (fun β => #[.agg #[iV p.ll, iV p.lh, iV p.ul, iV p.uh, .slice p.ea p.es.length p.ec], .agg #[iV n, iV n], iV (k : Int), iV (p.es.length : Int), iV (p.all : Int)]) (by kernel_rfl) (fun β extra => by kernel_rfl) (fun β => by kernel_rfl) (fun β w1 k1 h1 => run_any p (n, n) X k p.es.length p.all w1 (hp.keep (k1.keeps (fun _ h => h))) hF (by omega) (by omega) (by omega) (by unfold bdS; dsimp only; omega) hX)⟩,
          tri_newW 15 (fun β => aO #[iV 0, iV 0] 23) (fun β b => pA b) [0] (by kernel_rfl) (fun β extra b => by kernel_rfl) (by kernel_rfl) (fun β b => by kernel_rfl) (fun β b => by kernel_rfl) (fun β b => by kernel_rfl)⟩,
          tri_quietW (fun β => []) [0] [0] (fun β => [(.pointer (some ⟨(β 15), 0, none⟩), .pointer (some ⟨(β 15), 0, none⟩))]) (by kernel_rfl) (fun β extra => by kernel_rfl) (by kernel_rfl) (fun β => ⟨rfl, trivial⟩)⟩
          (fun β => ⟨[(1, iV (k : Int)), (2, pA b1), (4, pA b2), (5, .pointer (some ⟨(β3 9), 0, none⟩)), (6, pA b4), (7, .bool (decide (C.1 < n))), (8, iV n), (9, .pointer (some ⟨(β 15), 0, none⟩))], [(b4, aO #[iV (aftS C n).1, iV (aftS C n).2] 23), (b2, aO #[iV 0, iV 0] 23), (b1, aO #[iV p.ll, iV p.lh, iV p.ul, iV p.uh, .slice p.ea p.es.length p.ec] 26), ((β3 9), aO #[iV s0.1, iV s0.2] 23), ((β 15), aO #[iV X.1, iV X.2] 23)]⟩) (fun β => by kernel_rfl) (fun β5 => ?_)
    cases hd2 : (decide (X.2 < X.1)) with
    | false =>
      have hp2 := of_decide_eq_false hd2
      have hxi := hat.1 ⟨⟨by omega, by omega⟩, decide_eq_true (by omega)⟩
      cases hd3 : (decide (C.1 < n)) with
      | false =>
        have hp3 := of_decide_eq_false hd3
        refine run_auto [(41, .bool false), (43, .bool true), (25, iV (n + 1))] 35 [false, true] [4, 4, 0, 0] [1, 2, 4, 5, 6, 7, 8] [0, 1, 2, 3] (st' := ⟨[(1, iV (k : Int)), (2, pA b1), (4, pA b2), (5, .pointer (some ⟨(β3 9), 0, none⟩)), (6, pA b4), (7, .bool true), (8, iV (n + 1))], [(b4, aO #[iV n, iV n] 23), (b2, aO #[iV 0, iV 0] 23), (b1, aO #[iV p.ll, iV p.lh, iV p.ul, iV p.uh, .slice p.ea p.es.length p.ec] 26), ((β3 9), aO #[iV s0.1, iV s0.2] 23)]⟩) (acc := [(iV (IntKind.i64.wrap (n + 1)), iV (n + 1)), (pA b4, pA b4), (pA b4, pA b4), (.bool true, .bool true), (.bool true, .bool true), (.bool false, .bool false), (.bool (decide (X.2 < X.1)), .bool false), (.pointer (some ⟨(β5 15), 0, none⟩), .pointer (some ⟨(β5 15), 0, none⟩)), (.pointer (some ⟨(β5 15), 0, none⟩), .pointer (some ⟨(β5 15), 0, none⟩))]) (by kernel_rfl) (by kernel_rfl) ⟨(wr (by omega) (by omega)), rfl, rfl, rfl, rfl, rfl, (bo hd2), rfl, rfl, trivial⟩ ?_
        have hj := hJ0 (n + 1) ⟨by omega, by omega⟩ (by omega)
        rw [show aftS C (n + 1) = (n, n) from by rw [aft_in hxi.1 hxi.2, show C.1 = n by omega], show decide (C.1 < n + 1) = true from decide_eq_true (by omega)] at hj
        exact run_round (by kernel_rfl) hj
      | true =>
        have hp3 := of_decide_eq_true hd3
        refine run_auto [(41, .bool false), (43, .bool false), (25, iV (n + 1))] 30 [false, false] [4, 4, 0] [1, 2, 4, 5, 6, 7, 8] [0, 1, 2, 3] (st' := ⟨[(1, iV (k : Int)), (2, pA b1), (4, pA b2), (5, .pointer (some ⟨(β3 9), 0, none⟩)), (6, pA b4), (7, .bool true), (8, iV (n + 1))], [(b4, aO #[iV (aftS C n).1, iV n] 23), (b2, aO #[iV 0, iV 0] 23), (b1, aO #[iV p.ll, iV p.lh, iV p.ul, iV p.uh, .slice p.ea p.es.length p.ec] 26), ((β3 9), aO #[iV s0.1, iV s0.2] 23)]⟩) (acc := [(iV (IntKind.i64.wrap (n + 1)), iV (n + 1)), (pA b4, pA b4), (.bool false, .bool false), (.bool false, .bool false), (.bool false, .bool false), (.bool (decide (X.2 < X.1)), .bool false), (.pointer (some ⟨(β5 15), 0, none⟩), .pointer (some ⟨(β5 15), 0, none⟩)), (.pointer (some ⟨(β5 15), 0, none⟩), .pointer (some ⟨(β5 15), 0, none⟩))]) (by kernel_rfl) (by kernel_rfl) ⟨(wr (by omega) (by omega)), rfl, rfl, rfl, rfl, (bo hd2), rfl, rfl, trivial⟩ ?_
        have hj := hJ0 (n + 1) ⟨by omega, by omega⟩ (by omega)
        rw [aft_in hxi.1 hxi.2, show decide (C.1 < n + 1) = true from decide_eq_true (by omega)] at hj
        rw [show (aftS C n).1 = C.1 from by rw [aft_gt (by omega)]]
        exact run_round (by kernel_rfl) hj
    | true =>
      have hp2 := of_decide_eq_true hd2
      have hxo : ¬ (C.1 ≤ n ∧ n ≤ C.2) := fun h => by have h2 := of_decide_eq_true (hat.2 h).2; omega
      refine run_auto [(41, .bool true), (25, iV (n + 1))] 16 [true] [4, 4] [1, 2, 4, 5, 6, 7, 8] [0, 1, 2, 3] (st' := ⟨[(1, iV (k : Int)), (2, pA b1), (4, pA b2), (5, .pointer (some ⟨(β3 9), 0, none⟩)), (6, pA b4), (7, .bool (decide (C.1 < n))), (8, iV (n + 1))], [(b4, aO #[iV (aftS C n).1, iV (aftS C n).2] 23), (b2, aO #[iV 0, iV 0] 23), (b1, aO #[iV p.ll, iV p.lh, iV p.ul, iV p.uh, .slice p.ea p.es.length p.ec] 26), ((β3 9), aO #[iV s0.1, iV s0.2] 23)]⟩) (acc := [(iV (IntKind.i64.wrap (n + 1)), iV (n + 1)), (.bool true, .bool true), (.bool (decide (X.2 < X.1)), .bool true), (.pointer (some ⟨(β5 15), 0, none⟩), .pointer (some ⟨(β5 15), 0, none⟩)), (.pointer (some ⟨(β5 15), 0, none⟩), .pointer (some ⟨(β5 15), 0, none⟩))]) (by kernel_rfl) (by kernel_rfl) ⟨(wr (by omega) (by omega)), rfl, (bo hd2), rfl, rfl, trivial⟩ ?_
      have hj := hJ0 (n + 1) ⟨by omega, by omega⟩ (by omega)
      rw [(aft_out hCp hxo).1, (aft_out hCp hxo).2] at hj
      exact run_round (by kernel_rfl) hj

set_option maxRecDepth 100000 in
theorem rlimit_any (m : Int) (w : World)  : Calls Tryz.prog 59 #[.int .i64 m] w (RetB (spI (m, m) (-1000) 1000) w) := by
  refine calls_run (fn := f59) (c := (f59.body).getD .skip) [.int .i64 m] func59 (by kernel_rfl) (fun _ => False) [] (fun _ h => by cases h) (List.Pairwise.nil) 5 (by kernel_rfl) (by simp) ?_
  refine run_auto [] 7 [] [] [2, 3] [] (st' := ⟨[(2, .bool false), (3, iV m)], []⟩) (acc := []) (by kernel_rfl) (by kernel_rfl) trivial ?_
  cases hd1 : (inI m (-1000) 1000) with
  | false =>
    refine run_ret1 101 #[iV m, iV (-1000), iV 1000] (some 4) (.bool false) (by kernel_rfl) (fun w1 k1 h1 => (by have h := rin_any m (-1000) 1000 w1; rw [hd1] at h; exact h)) ?_
    refine run_auto [] 2 [] [] [2] [] (st' := ⟨[(2, .bool false)], []⟩) (acc := []) (by kernel_rfl) (by kernel_rfl) trivial ?_
    refine run_end (fn := f59) rfl (Nat.le_refl _) (by kernel_rfl) [] [.bool false] (e := []) (by kernel_rfl) trivial (fun w1 k1 h1 => ?_)
    exact ⟨by rw [show spI (m, m) (-1000) 1000 = inI m (-1000) 1000 from decide_eq_decide.2 (by dsimp only; omega)]; rw [hd1]; rfl, k1.keeps (fun _ h => h)⟩
  | true =>
    refine run_ret1 101 #[iV m, iV (-1000), iV 1000] (some 4) (.bool true) (by kernel_rfl) (fun w1 k1 h1 => (by have h := rin_any m (-1000) 1000 w1; rw [hd1] at h; exact h)) ?_
    refine run_auto [] 2 [] [] [2] [] (st' := ⟨[(2, .bool true)], []⟩) (acc := []) (by kernel_rfl) (by kernel_rfl) trivial ?_
    refine run_end (fn := f59) rfl (Nat.le_refl _) (by kernel_rfl) [] [.bool true] (e := []) (by kernel_rfl) trivial (fun w1 k1 h1 => ?_)
    exact ⟨by rw [show spI (m, m) (-1000) 1000 = inI m (-1000) 1000 from decide_eq_decide.2 (by dsimp only; omega)]; rw [hd1]; rfl, k1.keeps (fun _ h => h)⟩

end Go.Proofs.YtdjnkdelmmpleaaGreat
