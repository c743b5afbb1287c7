/-
  REF: after, After, Fits.
  REF: After, Fits, Below.
  REF: Lost.
-/
import Derived.Test.YtdjnkdelmmpleaaGreatGk
import Derived.Test.YtdjnkdelmmpleaaGreatGg
namespace Go.Proofs.YtdjnkdelmmpleaaGreat
open Go.RowKit Go.Proofs.Tryz

set_option maxRecDepth 100000 in
theorem rafter_any (p : Wb) (k : Nat) (w : World) (hp : p.In w) (hF : p.n.Fine) (hcan : p.n.can = true) (hk : k ≤ p.es.length) : Calls Tryz.prog 48 #[.agg #[.int .i64 p.ll, .int .i64 p.lh, .int .i64 p.ul, .int .i64 p.uh, .slice p.ea p.es.length p.ec], .int .i64 (k : Int)] w (Ret (.agg #[.int .i64 (mC p.n k).1, .int .i64 (mC p.n k).2]) w) := by
  have hn8 : p.es.length ≤ 8 := hF.n8
  have hal := all_lt hF
  have hl0 : 0 ≤ p.ll ∧ p.ll ≤ p.lh ∧ p.lh ≤ 300 := hF.l
  have hsub := mC_sub hF hcan hk
  have hCp := mC_poss hF hcan hk
  have hsB := rn_bd hF p.all k 0 (p.ll, p.lh) 1000 (by omega) (by omega) (by unfold bdS; dsimp only; omega)
  obtain ⟨s0, hs0⟩ : ∃ s, rnF (p.ul, p.uh) p.es p.all k 0 (p.ll, p.lh) = s := ⟨_, rfl⟩
  obtain ⟨C, hC0⟩ : ∃ C, mC p.n k = C := ⟨_, rfl⟩
  rw [hs0] at hsub hsB
  rw [hC0] at hsub hCp
  have hsb := hsub
  unfold bdS at hsB
  rw [hC0]
  refine calls_run (fn := f48) (c := (f48.body).getD .skip) [.agg #[.int .i64 p.ll, .int .i64 p.lh, .int .i64 p.ul, .int .i64 p.uh, .slice p.ea p.es.length p.ec], .int .i64 (k : Int)] func48 (by kernel_rfl) (fun _ => False) [] (fun _ h => by cases h) (List.Pairwise.nil) 49 (by kernel_rfl) (by simp) ?_
  refine run_auto [] 2 [] [] [0, 1] [] (st' := ⟨[(0, .agg #[iV p.ll, iV p.lh, iV p.ul, iV p.uh, .slice p.ea p.es.length p.ec]), (1, iV (k : Int))], []⟩) (acc := []) (by kernel_rfl) (by kernel_rfl) trivial ?_
  refine run_new (aO #[iV p.ll, iV p.lh, iV p.ul, iV p.uh, .slice p.ea p.es.length p.ec] 26) (fun b1 => pA b1) (some 2) (fun _ => by kernel_rfl) (fun b1 hb1 => ?_)
  refine run_new (aO #[iV 0, iV 0] 23) (fun b2 => pA b2) (some 4) (fun _ => by kernel_rfl) (fun b2 hb2 => ?_)
  refine run_auto [] 2 [] [] [1, 2, 4] [0, 1] (st' := ⟨[(1, iV (k : Int)), (2, pA b1), (4, pA b2)], [(b2, aO #[iV 0, iV 0] 23), (b1, aO #[iV p.ll, iV p.lh, iV p.ul, iV p.uh, .slice p.ea p.es.length p.ec] 26)]⟩) (acc := []) (by kernel_rfl) (by kernel_rfl) trivial ?_
  refine drawW 9 [{ val := fun _ => .agg #[iV p.ll, iV p.lh, iV p.ul, iV p.uh, .slice p.ea p.es.length p.ec], slots := [2], reads := [1] },
      { val := fun _ => pA b1, slots := [2] },
      { val := fun _ => .agg #[iV p.ll, iV p.lh], slots := [11], reads := [1] },
      { val := fun _ => iV (k : Int), slots := [1] },
      { val := fun _ => .agg #[iV p.ll, iV p.lh, iV p.ul, iV p.uh, .slice p.ea p.es.length p.ec], slots := [2], reads := [1] },
      { val := fun _ => iV (p.all : Int), slots := [14] },
      { val := fun _ => .agg #[iV s0.1, iV s0.2], slots := [10, 12, 13, 15] },
      { names := [9], val := fun l => .pointer (some ⟨(l.getD 0 0), 0, none⟩), upd := [(9, fun l => aO #[iV 0, iV 0] 23)], news := [9] },
      { upd := [(9, fun l => aO #[iV s0.1, iV s0.2] 23)], slots := [5, 16], reads := [9] }] [[], [], [1], [], [], [4], [0, 1, 2, 3, 4, 5], [], [0, 1, 2, 3, 4, 5, 6, 7]] (by kernel_rfl) (by kernel_rfl) (by kernel_rfl) (by kernel_rfl) [1, 2, 4, 5] [0, 1, 9] (by kernel_rfl)
      ⟨⟨⟨⟨⟨⟨⟨⟨⟨trivial,
      tri_quietW (fun β => []) [0] [0] (fun β => [(pA b1, pA b1)]) (by kernel_rfl) (fun β extra => by kernel_rfl) (by kernel_rfl) (fun β => ⟨rfl, trivial⟩)⟩,
      tri_quietW (fun β => []) [] [] (fun β => []) (by kernel_rfl) (fun β extra => by kernel_rfl) (by kernel_rfl) (fun β => trivial)⟩,
      tri_quietW (fun β => []) [0] [0] (fun β => [(pA b1, pA b1)]) (by kernel_rfl) (fun β extra => by kernel_rfl) (by kernel_rfl) (fun β => ⟨rfl, trivial⟩)⟩,
      tri_quietW (fun β => []) [] [] (fun β => []) (by kernel_rfl) (fun β extra => by kernel_rfl) (by kernel_rfl) (fun β => trivial)⟩,
      tri_quietW (fun β => []) [0] [0] (fun β => [(pA b1, pA b1)]) (by kernel_rfl) (fun β extra => by kernel_rfl) (by kernel_rfl) (fun β => ⟨rfl, trivial⟩)⟩,
      tri_callVW (fun β => iV (p.all : Int)) (fun β => by kernel_rfl) 52 (fun β => #[.agg #[iV p.ll, iV p.lh, iV p.ul, iV p.uh, .slice p.ea p.es.length p.ec]]) (by kernel_rfl) (fun β extra => by kernel_rfl) (fun β => by kernel_rfl) (fun β w1 k1 h1 => every_any p w1 hn8)⟩,
      tri_callVW (fun β => .agg #[iV s0.1, iV s0.2]) (fun β => by kernel_rfl) 51 (fun β => #[.agg #[iV p.ll, iV p.lh, iV p.ul, iV p.uh, .slice p.ea p.es.length p.ec], .agg #[iV p.ll, iV p.lh], iV 0, iV (k : Int), iV (p.all : Int)]) (by kernel_rfl) (fun β extra => by kernel_rfl) (fun β => by kernel_rfl) (fun β w1 k1 h1 => run_any p (p.ll, p.lh) s0 0 k p.all w1 (hp.keep (k1.keeps (fun _ h => h))) hF (by omega) (by omega) (by omega) (by unfold bdS; dsimp only; omega) hs0)⟩,
      tri_newW 9 (fun β => aO #[iV 0, iV 0] 23) (fun β b => pA b) [0] (by kernel_rfl) (fun β extra b => by kernel_rfl) (by kernel_rfl) (fun β b => by kernel_rfl) (fun β b => by kernel_rfl) (fun β b => by kernel_rfl)⟩,
      tri_quietW (fun β => []) [0] [0] (fun β => [(.pointer (some ⟨(β 9), 0, none⟩), .pointer (some ⟨(β 9), 0, none⟩))]) (by kernel_rfl) (fun β extra => by kernel_rfl) (by kernel_rfl) (fun β => ⟨rfl, trivial⟩)⟩
      (fun β => ⟨[(1, iV (k : Int)), (2, pA b1), (4, pA b2), (5, .pointer (some ⟨(β 9), 0, none⟩))], [(b2, aO #[iV 0, iV 0] 23), (b1, aO #[iV p.ll, iV p.lh, iV p.ul, iV p.uh, .slice p.ea p.es.length p.ec] 26), ((β 9), aO #[iV s0.1, iV s0.2] 23)]⟩) (fun β => by kernel_rfl) (fun β3 => ?_)
  refine run_auto [] 3 [] [] [1, 2, 4, 5, 17] [0, 1, 2] (st' := ⟨[(1, iV (k : Int)), (2, pA b1), (4, pA b2), (5, .pointer (some ⟨(β3 9), 0, none⟩)), (17, .agg #[iV 0, iV 0])], [(b2, aO #[iV 0, iV 0] 23), (b1, aO #[iV p.ll, iV p.lh, iV p.ul, iV p.uh, .slice p.ea p.es.length p.ec] 26), ((β3 9), aO #[iV s0.1, iV s0.2] 23)]⟩) (acc := []) (by kernel_rfl) (by kernel_rfl) trivial ?_
  refine run_new (aO #[iV 0, iV 0] 23) (fun b4 => pA b4) (some 6) (fun _ => by kernel_rfl) (fun b4 hb4 => ?_)
  refine run_auto [] 11 [] [0, 3] [1, 2, 4, 5, 6, 7, 8] [0, 1, 2, 3] (st' := ⟨[(1, iV (k : Int)), (2, pA b1), (4, pA b2), (5, .pointer (some ⟨(β3 9), 0, none⟩)), (6, pA b4), (7, .bool false), (8, iV s0.1)], [(b4, aO #[iV 0, iV 0] 23), (b2, aO #[iV 0, iV 0] 23), (b1, aO #[iV p.ll, iV p.lh, iV p.ul, iV p.uh, .slice p.ea p.es.length p.ec] 26), ((β3 9), aO #[iV s0.1, iV s0.2] 23)]⟩) (acc := [(.pointer (some ⟨(β3 9), 0, none⟩), .pointer (some ⟨(β3 9), 0, none⟩)), (pA b4, pA b4)]) (by kernel_rfl) (by kernel_rfl) ⟨rfl, rfl, trivial⟩ ?_
  refine run_auto [] 0 [] [] [1, 2, 4, 5, 6, 7, 8] [0, 1, 2, 3] (st' := ⟨[(1, iV (k : Int)), (2, pA b1), (4, pA b2), (5, .pointer (some ⟨(β3 9), 0, none⟩)), (6, pA b4), (7, .bool false), (8, iV s0.1)], [(b4, aO #[iV 0, iV 0] 23), (b2, aO #[iV 0, iV 0] 23), (b1, aO #[iV p.ll, iV p.lh, iV p.ul, iV p.uh, .slice p.ea p.es.length p.ec] 26), ((β3 9), aO #[iV s0.1, iV s0.2] 23)]⟩) (acc := []) (by kernel_rfl) (by kernel_rfl) trivial ?_
  refine run_loop (S := fun (n : Int) => ⟨[(1, iV (k : Int)), (2, pA b1), (4, pA b2), (5, .pointer (some ⟨(β3 9), 0, none⟩)), (6, pA b4), (7, .bool (decide (C.1 < n))), (8, iV n)], [(b4, aO #[iV (aftS C n).1, iV (aftS C n).2] 23), (b2, aO #[iV 0, iV 0] 23), (b1, aO #[iV p.ll, iV p.lh, iV p.ul, iV p.uh, .slice p.ea p.es.length p.ec] 26), ((β3 9), aO #[iV s0.1, iV s0.2] 23)]⟩) (fun n => s0.1 ≤ n ∧ n ≤ s0.2 + 1) (fun n => (s0.2 + 1 - n).toNat) (s0.1) (by kernel_rfl) (⟨Int.le_refl _, by omega⟩) (by rw [aft_le hsb.1, show decide (C.1 < s0.1) = false from decide_eq_false (by omega)]) (fun n hI0 J0 hJ0 => ?_)
  obtain ⟨hn1, hn2⟩ := hI0
  obtain ⟨X, hX⟩ : ∃ X, rnF (p.ul, p.uh) p.es p.all (p.es.length - k) k (n, n) = X := ⟨_, rfl⟩
  have hat := aft_at hF hk n
  rw [hs0, hX, hC0] at hat
  unfold inP at hat
  cases hd1 : (decide (n ≤ s0.2)) with
  | false =>
    have hp1 := of_decide_eq_false hd1
    refine run_auto [(23, .bool false)] 15 [false] [3, 0, 1] [4] [1] (st' := ⟨[(4, pA b2)], [(b2, aO #[iV (aftS C n).1, iV (aftS C n).2] 23)]⟩) (acc := [(pA b2, pA b2), (pA b4, pA b4), (.bool false, .bool false), (.bool (decide (n ≤ s0.2)), .bool false), (.pointer (some ⟨(β3 9), 0, none⟩), .pointer (some ⟨(β3 9), 0, none⟩))]) (by kernel_rfl) (by kernel_rfl) ⟨rfl, rfl, rfl, (bo hd1), rfl, trivial⟩ ?_
    refine run_end (fn := f48) rfl (Nat.le_refl _) (by kernel_rfl) [0] [.agg #[iV (aftS C n).1, iV (aftS C n).2]] (e := [(pA b2, pA b2)]) (by kernel_rfl) ⟨rfl, trivial⟩ (fun w1 k1 h1 => ?_)
    have hq := aft_all hCp (n := n) (by omega)
    rw [hq]
    exact ⟨rfl, k1.keeps (fun _ h => h)⟩
  | true =>
    have hp1 := of_decide_eq_true hd1
    refine run_auto [(23, .bool true)] 13 [true] [3] [1, 2, 4, 5, 6, 7, 8] [0, 1, 2, 3] (st' := ⟨[(1, iV (k : Int)), (2, pA b1), (4, pA b2), (5, .pointer (some ⟨(β3 9), 0, none⟩)), (6, pA b4), (7, .bool (decide (C.1 < n))), (8, iV n)], [(b4, aO #[iV (aftS C n).1, iV (aftS C n).2] 23), (b2, aO #[iV 0, iV 0] 23), (b1, aO #[iV p.ll, iV p.lh, iV p.ul, iV p.uh, .slice p.ea p.es.length p.ec] 26), ((β3 9), aO #[iV s0.1, iV s0.2] 23)]⟩) (acc := [(.bool true, .bool true), (.bool (decide (n ≤ s0.2)), .bool true), (.pointer (some ⟨(β3 9), 0, none⟩), .pointer (some ⟨(β3 9), 0, none⟩))]) (by kernel_rfl) (by kernel_rfl) ⟨rfl, (bo hd1), rfl, trivial⟩ ?_
    refine drawW 13 [{ val := fun _ => .agg #[iV p.ll, iV p.lh, iV p.ul, iV p.uh, .slice p.ea p.es.length p.ec], slots := [2], reads := [2] },
          { val := fun _ => iV n, slots := [8] },
          { val := fun _ => iV n, slots := [8] },
          { val := fun _ => .agg #[iV n, iV n], slots := [27, 28] },
          { val := fun _ => iV (k : Int), slots := [1] },
          { val := fun _ => .pointer (some ⟨b1, 4, none⟩), slots := [2] },
          { val := fun _ => .slice p.ea p.es.length p.ec, slots := [31], reads := [2] },
          { val := fun _ => iV (p.es.length : Int), slots := [32] },
          { val := fun _ => .agg #[iV p.ll, iV p.lh, iV p.ul, iV p.uh, .slice p.ea p.es.length p.ec], slots := [2], reads := [2] },
          { val := fun _ => iV (p.all : Int), slots := [34] },
          { val := fun _ => .agg #[iV X.1, iV X.2], slots := [26, 29, 30, 33, 35] },
          { names := [15], val := fun l => .pointer (some ⟨(l.getD 0 0), 0, none⟩), upd := [(15, fun l => aO #[iV 0, iV 0] 23)], news := [15] },
          { upd := [(15, fun l => aO #[iV X.1, iV X.2] 23)], slots := [9, 36], reads := [15] }] [[], [], [], [1, 2], [], [], [5], [5, 6], [], [8], [0, 1, 2, 3, 4, 5, 6, 7, 8, 9], [], [0, 1, 2, 3, 4, 5, 6, 7, 8, 9, 10, 11]] (by kernel_rfl) (by kernel_rfl) (by kernel_rfl) (by kernel_rfl) [1, 2, 4, 5, 6, 7, 8, 9] [0, 1, 2, 3, 15] (by kernel_rfl)
          ⟨⟨⟨⟨⟨⟨⟨⟨⟨⟨⟨⟨⟨trivial,
          tri_quietW (fun β => []) [0] [0] (fun β => [(pA b1, pA b1)]) (by kernel_rfl) (fun β extra => by kernel_rfl) (by kernel_rfl) (fun β => ⟨rfl, trivial⟩)⟩,
          tri_quietW (fun β => []) [] [] (fun β => []) (by kernel_rfl) (fun β extra => by kernel_rfl) (by kernel_rfl) (fun β => trivial)⟩,
          tri_quietW (fun β => []) [] [] (fun β => []) (by kernel_rfl) (fun β extra => by kernel_rfl) (by kernel_rfl) (fun β => trivial)⟩,
          tri_quietW (fun β => []) [] [] (fun β => []) (by kernel_rfl) (fun β extra => by kernel_rfl) (by kernel_rfl) (fun β => trivial)⟩,
          tri_quietW (fun β => []) [] [] (fun β => []) (by kernel_rfl) (fun β extra => by kernel_rfl) (by kernel_rfl) (fun β => trivial)⟩,
          tri_quietW (fun β => []) [] [] (fun β => []) (by kernel_rfl) (fun β extra => by kernel_rfl) (by kernel_rfl) (fun β => trivial)⟩,
          tri_quietW (fun β => []) [0] [0] (fun β => [(pA b1, pA b1)]) (by kernel_rfl) (fun β extra => by kernel_rfl) (by kernel_rfl) (fun β => ⟨rfl, trivial⟩)⟩,
          tri_quietW (fun β => []) [] [] (fun β => []) (by kernel_rfl) (fun β extra => by kernel_rfl) (by kernel_rfl) (fun β => trivial)⟩,
          tri_quietW (fun β => []) [0] [0] (fun β => [(pA b1, pA b1)]) (by kernel_rfl) (fun β extra => by kernel_rfl) (by kernel_rfl) (fun β => ⟨rfl, trivial⟩)⟩,
          tri_callVW (fun β => iV (p.all : Int)) (fun β => by kernel_rfl) 52 (fun β => #[.agg #[iV p.ll, iV p.lh, iV p.ul, iV p.uh, .slice p.ea p.es.length p.ec]]) (by kernel_rfl) (fun β extra => by kernel_rfl) (fun β => by kernel_rfl) (fun β w1 k1 h1 => every_any p w1 hn8)⟩,
          tri_callVW (fun β => .agg #[iV X.1, iV X.2]) (fun β => by kernel_rfl) 51 (fun β => #[.agg #[iV p.ll, iV p.lh, iV p.ul, iV p.uh, .slice p.ea p.es.length p.ec], .agg #[iV n, iV n], iV (k : Int), iV (p.es.length : Int), iV (p.all : Int)]) (by kernel_rfl) (fun β extra => by kernel_rfl) (fun β => by kernel_rfl) (fun β w1 k1 h1 => run_any p (n, n) X k p.es.length p.all w1 (hp.keep (k1.keeps (fun _ h => h))) hF (by omega) (by omega) (by omega) (by unfold bdS; dsimp only; omega) hX)⟩,
          tri_newW 15 (fun β => aO #[iV 0, iV 0] 23) (fun β b => pA b) [0] (by kernel_rfl) (fun β extra b => by kernel_rfl) (by kernel_rfl) (fun β b => by kernel_rfl) (fun β b => by kernel_rfl) (fun β b => by kernel_rfl)⟩,
          tri_quietW (fun β => []) [0] [0] (fun β => [(.pointer (some ⟨(β 15), 0, none⟩), .pointer (some ⟨(β 15), 0, none⟩))]) (by kernel_rfl) (fun β extra => by kernel_rfl) (by kernel_rfl) (fun β => ⟨rfl, trivial⟩)⟩
          (fun β => ⟨[(1, iV (k : Int)), (2, pA b1), (4, pA b2), (5, .pointer (some ⟨(β3 9), 0, none⟩)), (6, pA b4), (7, .bool (decide (C.1 < n))), (8, iV n), (9, .pointer (some ⟨(β 15), 0, none⟩))], [(b4, aO #[iV (aftS C n).1, iV (aftS C n).2] 23), (b2, aO #[iV 0, iV 0] 23), (b1, aO #[iV p.ll, iV p.lh, iV p.ul, iV p.uh, .slice p.ea p.es.length p.ec] 26), ((β3 9), aO #[iV s0.1, iV s0.2] 23), ((β 15), aO #[iV X.1, iV X.2] 23)]⟩) (fun β => by kernel_rfl) (fun β5 => ?_)
    cases hd2 : (decide (X.2 < X.1)) with
    | false =>
      have hp2 := of_decide_eq_false hd2
      have hxi := hat.1 ⟨⟨by omega, by omega⟩, decide_eq_true (by omega)⟩
      cases hd3 : (decide (C.1 < n)) with
      | false =>
        have hp3 := of_decide_eq_false hd3
        refine run_auto [(41, .bool false), (43, .bool true), (25, iV (n + 1))] 35 [false, true] [4, 4, 0, 0] [1, 2, 4, 5, 6, 7, 8] [0, 1, 2, 3] (st' := ⟨[(1, iV (k : Int)), (2, pA b1), (4, pA b2), (5, .pointer (some ⟨(β3 9), 0, none⟩)), (6, pA b4), (7, .bool true), (8, iV (n + 1))], [(b4, aO #[iV n, iV n] 23), (b2, aO #[iV 0, iV 0] 23), (b1, aO #[iV p.ll, iV p.lh, iV p.ul, iV p.uh, .slice p.ea p.es.length p.ec] 26), ((β3 9), aO #[iV s0.1, iV s0.2] 23)]⟩) (acc := [(iV (IntKind.i64.wrap (n + 1)), iV (n + 1)), (pA b4, pA b4), (pA b4, pA b4), (.bool true, .bool true), (.bool true, .bool true), (.bool false, .bool false), (.bool (decide (X.2 < X.1)), .bool false), (.pointer (some ⟨(β5 15), 0, none⟩), .pointer (some ⟨(β5 15), 0, none⟩)), (.pointer (some ⟨(β5 15), 0, none⟩), .pointer (some ⟨(β5 15), 0, none⟩))]) (by kernel_rfl) (by kernel_rfl) ⟨(wr (by omega) (by omega)), rfl, rfl, rfl, rfl, rfl, (bo hd2), rfl, rfl, trivial⟩ ?_
        have hj := hJ0 (n + 1) ⟨by omega, by omega⟩ (by omega)
        rw [show aftS C (n + 1) = (n, n) from by rw [aft_in hxi.1 hxi.2, show C.1 = n by omega], show decide (C.1 < n + 1) = true from decide_eq_true (by omega)] at hj
        exact run_round (by kernel_rfl) hj
      | true =>
        have hp3 := of_decide_eq_true hd3
        refine run_auto [(41, .bool false), (43, .bool false), (25, iV (n + 1))] 30 [false, false] [4, 4, 0] [1, 2, 4, 5, 6, 7, 8] [0, 1, 2, 3] (st' := ⟨[(1, iV (k : Int)), (2, pA b1), (4, pA b2), (5, .pointer (some ⟨(β3 9), 0, none⟩)), (6, pA b4), (7, .bool true), (8, iV (n + 1))], [(b4, aO #[iV (aftS C n).1, iV n] 23), (b2, aO #[iV 0, iV 0] 23), (b1, aO #[iV p.ll, iV p.lh, iV p.ul, iV p.uh, .slice p.ea p.es.length p.ec] 26), ((β3 9), aO #[iV s0.1, iV s0.2] 23)]⟩) (acc := [(iV (IntKind.i64.wrap (n + 1)), iV (n + 1)), (pA b4, pA b4), (.bool false, .bool false), (.bool false, .bool false), (.bool false, .bool false), (.bool (decide (X.2 < X.1)), .bool false), (.pointer (some ⟨(β5 15), 0, none⟩), .pointer (some ⟨(β5 15), 0, none⟩)), (.pointer (some ⟨(β5 15), 0, none⟩), .pointer (some ⟨(β5 15), 0, none⟩))]) (by kernel_rfl) (by kernel_rfl) ⟨(wr (by omega) (by omega)), rfl, rfl, rfl, rfl, (bo hd2), rfl, rfl, trivial⟩ ?_
        have hj := hJ0 (n + 1) ⟨by omega, by omega⟩ (by omega)
        rw [aft_in hxi.1 hxi.2, show decide (C.1 < n + 1) = true from decide_eq_true (by omega)] at hj
        rw [show (aftS C n).1 = C.1 from by rw [aft_gt (by omega)]]
        exact run_round (by kernel_rfl) hj
    | true =>
      have hp2 := of_decide_eq_true hd2
      have hxo : ¬ (C.1 ≤ n ∧ n ≤ C.2) := fun h => by have h2 := of_decide_eq_true (hat.2 h).2; omega
      refine run_auto [(41, .bool true), (25, iV (n + 1))] 16 [true] [4, 4] [1, 2, 4, 5, 6, 7, 8] [0, 1, 2, 3] (st' := ⟨[(1, iV (k : Int)), (2, pA b1), (4, pA b2), (5, .pointer (some ⟨(β3 9), 0, none⟩)), (6, pA b4), (7, .bool (decide (C.1 < n))), (8, iV (n + 1))], [(b4, aO #[iV (aftS C n).1, iV (aftS C n).2] 23), (b2, aO #[iV 0, iV 0] 23), (b1, aO #[iV p.ll, iV p.lh, iV p.ul, iV p.uh, .slice p.ea p.es.length p.ec] 26), ((β3 9), aO #[iV s0.1, iV s0.2] 23)]⟩) (acc := [(iV (IntKind.i64.wrap (n + 1)), iV (n + 1)), (.bool true, .bool true), (.bool (decide (X.2 < X.1)), .bool true), (.pointer (some ⟨(β5 15), 0, none⟩), .pointer (some ⟨(β5 15), 0, none⟩)), (.pointer (some ⟨(β5 15), 0, none⟩), .pointer (some ⟨(β5 15), 0, none⟩))]) (by kernel_rfl) (by kernel_rfl) ⟨(wr (by omega) (by omega)), rfl, (bo hd2), rfl, rfl, trivial⟩ ?_
      have hj := hJ0 (n + 1) ⟨by omega, by omega⟩ (by omega)
      rw [(aft_out hCp hxo).1, (aft_out hCp hxo).2] at hj
      exact run_round (by kernel_rfl) hj

set_option maxRecDepth 100000 in
theorem revt_any (p : Wb) (n : Int) (w : World) (hl : p.es.length ≤ maxLen) : Calls Tryz.prog 47 #[.agg #[.int .i64 p.ll, .int .i64 p.lh, .int .i64 p.ul, .int .i64 p.uh, .slice p.ea p.es.length p.ec], .int .i64 n] w (RetB (inI n 0 ((p.es.length : Int) - 1)) w) := by
  simp only [maxLen] at hl
  refine calls_run (fn := f47) (c := (f47.body).getD .skip) [.agg #[.int .i64 p.ll, .int .i64 p.lh, .int .i64 p.ul, .int .i64 p.uh, .slice p.ea p.es.length p.ec], .int .i64 n] func47 (by kernel_rfl) (fun _ => False) [] (fun _ h => by cases h) (List.Pairwise.nil) 11 (by kernel_rfl) (by simp) ?_
  refine run_auto [] 2 [] [] [0, 1] [] (st' := ⟨[(0, .agg #[iV p.ll, iV p.lh, iV p.ul, iV p.uh, .slice p.ea p.es.length p.ec]), (1, iV n)], []⟩) (acc := []) (by kernel_rfl) (by kernel_rfl) trivial ?_
  refine run_new (aO #[iV p.ll, iV p.lh, iV p.ul, iV p.uh, .slice p.ea p.es.length p.ec] 26) (fun b1 => pA b1) (some 2) (fun _ => by kernel_rfl) (fun b1 hb1 => ?_)
  refine run_auto [(9, iV ((p.es.length : Int) - 1))] 9 [] [0] [4, 5, 9] [] (st' := ⟨[(4, .bool false), (5, iV n), (9, iV ((p.es.length : Int) - 1))], []⟩) (acc := [(iV (IntKind.i64.wrap ((p.es.length : Int) - 1)), iV ((p.es.length : Int) - 1)), (pA b1, pA b1)]) (by kernel_rfl) (by kernel_rfl) ⟨(wr (by omega) (by omega)), rfl, trivial⟩ ?_
  cases hd1 : (inI n 0 ((p.es.length : Int) - 1)) with
  | false =>
    refine run_ret1 101 #[iV n, iV 0, iV ((p.es.length : Int) - 1)] (some 10) (.bool false) (by kernel_rfl) (fun w1 k1 h1 => (by have h := rin_any n 0 ((p.es.length : Int) - 1) w1; rw [hd1] at h; exact h)) ?_
    refine run_auto [] 2 [] [] [4] [] (st' := ⟨[(4, .bool false)], []⟩) (acc := []) (by kernel_rfl) (by kernel_rfl) trivial ?_
    refine run_end (fn := f47) rfl (Nat.le_refl _) (by kernel_rfl) [] [.bool false] (e := []) (by kernel_rfl) trivial (fun w1 k1 h1 => ?_)
    exact ⟨rfl, k1.keeps (fun _ h => h)⟩
  | true =>
    refine run_ret1 101 #[iV n, iV 0, iV ((p.es.length : Int) - 1)] (some 10) (.bool true) (by kernel_rfl) (fun w1 k1 h1 => (by have h := rin_any n 0 ((p.es.length : Int) - 1) w1; rw [hd1] at h; exact h)) ?_
    refine run_auto [] 2 [] [] [4] [] (st' := ⟨[(4, .bool true)], []⟩) (acc := []) (by kernel_rfl) (by kernel_rfl) trivial ?_
    refine run_end (fn := f47) rfl (Nat.le_refl _) (by kernel_rfl) [] [.bool true] (e := []) (by kernel_rfl) trivial (fun w1 k1 h1 => ?_)
    exact ⟨rfl, k1.keeps (fun _ h => h)⟩

set_option maxRecDepth 100000 in
theorem rlimit_any (m : Int) (w : World)  : Calls Tryz.prog 59 #[.int .i64 m] w (RetB (spI (m, m) (-1000) 1000) w) := by
  refine calls_run (fn := f59) (c := (f59.body).getD .skip) [.int .i64 m] func59 (by kernel_rfl) (fun _ => False) [] (fun _ h => by cases h) (List.Pairwise.nil) 5 (by kernel_rfl) (by simp) ?_
  refine run_auto [] 7 [] [] [2, 3] [] (st' := ⟨[(2, .bool false), (3, iV m)], []⟩) (acc := []) (by kernel_rfl) (by kernel_rfl) trivial ?_
  cases hd1 : (inI m (-1000) 1000) with
  | false =>
    refine run_ret1 101 #[iV m, iV (-1000), iV 1000] (some 4) (.bool false) (by kernel_rfl) (fun w1 k1 h1 => (by have h := rin_any m (-1000) 1000 w1; rw [hd1] at h; exact h)) ?_
    refine run_auto [] 2 [] [] [2] [] (st' := ⟨[(2, .bool false)], []⟩) (acc := []) (by kernel_rfl) (by kernel_rfl) trivial ?_
    refine run_end (fn := f59) rfl (Nat.le_refl _) (by kernel_rfl) [] [.bool false] (e := []) (by kernel_rfl) trivial (fun w1 k1 h1 => ?_)
    exact ⟨by rw [show spI (m, m) (-1000) 1000 = inI m (-1000) 1000 from decide_eq_decide.2 (by dsimp only; omega)]; rw [hd1]; rfl, k1.keeps (fun _ h => h)⟩
  | true =>
    refine run_ret1 101 #[iV m, iV (-1000), iV 1000] (some 4) (.bool true) (by kernel_rfl) (fun w1 k1 h1 => (by have h := rin_any m (-1000) 1000 w1; rw [hd1] at h; exact h)) ?_
    refine run_auto [] 2 [] [] [2] [] (st' := ⟨[(2, .bool true)], []⟩) (acc := []) (by kernel_rfl) (by kernel_rfl) trivial ?_
    refine run_end (fn := f59) rfl (Nat.le_refl _) (by kernel_rfl) [] [.bool true] (e := []) (by kernel_rfl) trivial (fun w1 k1 h1 => ?_)
    exact ⟨by rw [show spI (m, m) (-1000) 1000 = inI m (-1000) 1000 from decide_eq_decide.2 (by dsimp only; omega)]; rw [hd1]; rfl, k1.keeps (fun _ h => h)⟩

set_option maxRecDepth 100000 in
theorem rshows_any (s : Sp) (w : World)  : Calls Tryz.prog 68 #[.agg #[.int .i64 s.1, .int .i64 s.2]] w (RetB (spI s (-1000) 1000) w) := by
  refine calls_run (fn := f68) (c := (f68.body).getD .skip) [.agg #[.int .i64 s.1, .int .i64 s.2]] func68 (by kernel_rfl) (fun _ => False) [] (fun _ h => by cases h) (List.Pairwise.nil) 5 (by kernel_rfl) (by simp) ?_
  refine run_auto [] 2 [] [] [0] [] (st' := ⟨[(0, .agg #[iV s.1, iV s.2])], []⟩) (acc := []) (by kernel_rfl) (by kernel_rfl) trivial ?_
  refine run_new (aO #[iV s.1, iV s.2] 23) (fun b1 => pA b1) (some 1) (fun _ => by kernel_rfl) (fun b1 hb1 => ?_)
  refine run_auto [] 5 [] [0] [2, 3] [] (st' := ⟨[(2, .bool false), (3, .agg #[iV s.1, iV s.2])], []⟩) (acc := [(pA b1, pA b1)]) (by kernel_rfl) (by kernel_rfl) ⟨rfl, trivial⟩ ?_
  cases hd1 : (spI s (-1000) 1000) with
  | false =>
    refine run_ret1 89 #[.agg #[iV s.1, iV s.2], iV (-1000), iV 1000] (some 4) (.bool false) (by kernel_rfl) (fun w1 k1 h1 => (by have h := rspan_any s.1 s.2 (-1000) 1000 w1; rw [hd1] at h; exact h)) ?_
    refine run_auto [] 2 [] [] [2] [] (st' := ⟨[(2, .bool false)], []⟩) (acc := []) (by kernel_rfl) (by kernel_rfl) trivial ?_
    refine run_end (fn := f68) rfl (Nat.le_refl _) (by kernel_rfl) [] [.bool false] (e := []) (by kernel_rfl) trivial (fun w1 k1 h1 => ?_)
    exact ⟨rfl, k1.keeps (fun _ h => h)⟩
  | true =>
    refine run_ret1 89 #[.agg #[iV s.1, iV s.2], iV (-1000), iV 1000] (some 4) (.bool true) (by kernel_rfl) (fun w1 k1 h1 => (by have h := rspan_any s.1 s.2 (-1000) 1000 w1; rw [hd1] at h; exact h)) ?_
    refine run_auto [] 2 [] [] [2] [] (st' := ⟨[(2, .bool true)], []⟩) (acc := []) (by kernel_rfl) (by kernel_rfl) trivial ?_
    refine run_end (fn := f68) rfl (Nat.le_refl _) (by kernel_rfl) [] [.bool true] (e := []) (by kernel_rfl) trivial (fun w1 k1 h1 => ?_)
    exact ⟨rfl, k1.keeps (fun _ h => h)⟩

end Go.Proofs.YtdjnkdelmmpleaaGreat

namespace Go.Proofs.YtdjnkdelmmpleaaGreat
open Go.RowKit Go.Proofs.Tryz


theorem evt_in (n : Int) (m : Nat) : inI n 0 ((m : Int) - 1) = decide (0 ≤ n ∧ n < (m : Int)) := decide_eq_decide.2 (by omega)
theorem bitsP_add (q : Nat → Bool) (n : Nat) : bitsP q (n + 1) = bif q n then bitsP q n + 2 ^ n else bitsP q n := by
  rw [bitsP_next]
  cases q n with
  | false => rfl
  | true =>
    rw [cond_true, cond_true, Nat.or_comm, ← Nat.shiftLeft_add_eq_or_of_lt (bitsP_lt q n) 1, Nat.one_shiftLeft, Nat.add_comm]
set_option maxRecDepth 100000 in
theorem rAfter_any (p : Wb) (n : Int) (w : World) (hp : p.In w) : Calls Tryz.prog 15 #[.agg #[.int .i64 p.ll, .int .i64 p.lh, .int .i64 p.ul, .int .i64 p.uh, .slice p.ea p.es.length p.ec], .int .i64 n] w (Ret (.tuple #[.agg #[.int .i64 (spA (afterR p n)).1, .int .i64 (spA (afterR p n)).2], .int .i64 (erA (afterR p n))]) w) := by
  refine calls_run (fn := f15) (c := (f15.body).getD .skip) [.agg #[.int .i64 p.ll, .int .i64 p.lh, .int .i64 p.ul, .int .i64 p.uh, .slice p.ea p.es.length p.ec], .int .i64 n] func15 (by kernel_rfl) (fun _ => False) [] (fun _ h => by cases h) (List.Pairwise.nil) 20 (by kernel_rfl) (by simp) ?_
  refine run_auto [] 2 [] [] [0, 1] [] (st' := ⟨[(0, .agg #[iV p.ll, iV p.lh, iV p.ul, iV p.uh, .slice p.ea p.es.length p.ec]), (1, iV n)], []⟩) (acc := []) (by kernel_rfl) (by kernel_rfl) trivial ?_
  refine run_new (aO #[iV p.ll, iV p.lh, iV p.ul, iV p.uh, .slice p.ea p.es.length p.ec] 26) (fun b1 => pA b1) (some 2) (fun _ => by kernel_rfl) (fun b1 hb1 => ?_)
  refine run_new (aO #[iV 0, iV 0] 23) (fun b2 => pA b2) (some 4) (fun _ => by kernel_rfl) (fun b2 hb2 => ?_)
  refine run_auto [] 3 [] [] [1, 2, 4, 5] [0, 1] (st' := ⟨[(1, iV n), (2, pA b1), (4, pA b2), (5, iV 0)], [(b2, aO #[iV 0, iV 0] 23), (b1, aO #[iV p.ll, iV p.lh, iV p.ul, iV p.uh, .slice p.ea p.es.length p.ec] 26)]⟩) (acc := []) (by kernel_rfl) (by kernel_rfl) trivial ?_
  cases hd1 : (inI n 0 ((p.es.length : Int) - 1)) with
  | false =>
    have hnb : decide (0 ≤ n ∧ n < (p.es.length : Int)) = false := by rw [← evt_in]; exact hd1
    cases hd2 : p.n.ok with
    | false =>
      refine drawW 6 [{ val := fun _ => .agg #[iV p.ll, iV p.lh, iV p.ul, iV p.uh, .slice p.ea p.es.length p.ec], slots := [2], reads := [1] },
              { val := fun _ => .agg #[iV p.ll, iV p.lh, iV p.ul, iV p.uh, .slice p.ea p.es.length p.ec], slots := [2], reads := [1] },
              { val := fun _ => iV n, slots := [1] },
              { val := fun _ => .bool false, slots := [8, 9] },
              { val := fun _ => iV 1, slots := [7, 10] },
              { val := fun _ => iV 1, slots := [11] }] [[], [], [], [1, 2], [0, 1, 2, 3], [0, 1, 2, 3, 4]] (by kernel_rfl) (by kernel_rfl) (by kernel_rfl) (by kernel_rfl) [1, 2, 4, 5, 6] [0, 1] (by kernel_rfl)
              ⟨⟨⟨⟨⟨⟨trivial,
              tri_quietW (fun β => []) [0] [0] (fun β => [(pA b1, pA b1)]) (by kernel_rfl) (fun β extra => by kernel_rfl) (by kernel_rfl) (fun β => ⟨rfl, trivial⟩)⟩,
              tri_quietW (fun β => []) [0] [0] (fun β => [(pA b1, pA b1)]) (by kernel_rfl) (fun β extra => by kernel_rfl) (by kernel_rfl) (fun β => ⟨rfl, trivial⟩)⟩,
              tri_quietW (fun β => []) [] [] (fun β => []) (by kernel_rfl) (fun β extra => by kernel_rfl) (by kernel_rfl) (fun β => trivial)⟩,
              tri_callVW (fun β => .bool false) (fun β => by kernel_rfl) 47 (fun β => #[.agg #[iV p.ll, iV p.lh, iV p.ul, iV p.uh, .slice p.ea p.es.length p.ec], iV n]) (by kernel_rfl) (fun β extra => by kernel_rfl) (fun β => by kernel_rfl) (fun β w1 k1 h1 => (by have h := revt_any p n w1 hp.ln; rw [hd1] at h; exact h))⟩,
              tri_callVW (fun β => iV 1) (fun β => by kernel_rfl) 46 (fun β => #[.agg #[iV p.ll, iV p.lh, iV p.ul, iV p.uh, .slice p.ea p.es.length p.ec], iV 0, .bool false]) (by kernel_rfl) (fun β extra => by kernel_rfl) (fun β => by kernel_rfl) (fun β w1 k1 h1 => (by have h := check_any p 0 false w1 (hp.keep (k1.keeps (fun _ h => h))); rw [show chkR p 0 false = 1 from by unfold chkR; rw [hd2]; rfl] at h; exact h))⟩,
              tri_quietW (fun β => []) [] [] (fun β => []) (by kernel_rfl) (fun β extra => by kernel_rfl) (by kernel_rfl) (fun β => trivial)⟩
              (fun β => ⟨[(1, iV n), (2, pA b1), (4, pA b2), (5, iV 0), (6, iV 1)], [(b2, aO #[iV 0, iV 0] 23), (b1, aO #[iV p.ll, iV p.lh, iV p.ul, iV p.uh, .slice p.ea p.es.length p.ec] 26)]⟩) (fun β => by kernel_rfl) (fun β3 => ?_)
      refine run_auto [(13, .bool true)] 14 [true] [0] [1, 2, 4, 5] [0, 1] (st' := ⟨[(1, iV n), (2, pA b1), (4, pA b2), (5, iV 1)], [(b2, aO #[iV 0, iV 0] 23), (b1, aO #[iV p.ll, iV p.lh, iV p.ul, iV p.uh, .slice p.ea p.es.length p.ec] 26)]⟩) (acc := [(pA b2, pA b2), (.bool true, .bool true), (.bool true, .bool true)]) (by kernel_rfl) (by kernel_rfl) ⟨rfl, rfl, rfl, trivial⟩ ?_
      refine run_end (fn := f15) rfl (Nat.le_refl _) (by kernel_rfl) [0] [.agg #[iV 0, iV 0], iV 1] (e := [(pA b2, pA b2)]) (by kernel_rfl) ⟨rfl, trivial⟩ (fun w1 k1 h1 => ?_)
      unfold afterR
      rw [hd2, hnb]
      exact ⟨rfl, k1.keeps (fun _ h => h)⟩
    | true =>
      have hF := Wn.fine hd2
      have hn8 : p.es.length ≤ 8 := hF.n8
      have hal := all_lt hF
      have hl0 : 0 ≤ p.ll ∧ p.ll ≤ p.lh ∧ p.lh ≤ 300 := hF.l
      refine drawW 6 [{ val := fun _ => .agg #[iV p.ll, iV p.lh, iV p.ul, iV p.uh, .slice p.ea p.es.length p.ec], slots := [2], reads := [1] },
              { val := fun _ => .agg #[iV p.ll, iV p.lh, iV p.ul, iV p.uh, .slice p.ea p.es.length p.ec], slots := [2], reads := [1] },
              { val := fun _ => iV n, slots := [1] },
              { val := fun _ => .bool false, slots := [8, 9] },
              { val := fun _ => iV 2, slots := [7, 10] },
              { val := fun _ => iV 2, slots := [11] }] [[], [], [], [1, 2], [0, 1, 2, 3], [0, 1, 2, 3, 4]] (by kernel_rfl) (by kernel_rfl) (by kernel_rfl) (by kernel_rfl) [1, 2, 4, 5, 6] [0, 1] (by kernel_rfl)
              ⟨⟨⟨⟨⟨⟨trivial,
              tri_quietW (fun β => []) [0] [0] (fun β => [(pA b1, pA b1)]) (by kernel_rfl) (fun β extra => by kernel_rfl) (by kernel_rfl) (fun β => ⟨rfl, trivial⟩)⟩,
              tri_quietW (fun β => []) [0] [0] (fun β => [(pA b1, pA b1)]) (by kernel_rfl) (fun β extra => by kernel_rfl) (by kernel_rfl) (fun β => ⟨rfl, trivial⟩)⟩,
              tri_quietW (fun β => []) [] [] (fun β => []) (by kernel_rfl) (fun β extra => by kernel_rfl) (by kernel_rfl) (fun β => trivial)⟩,
              tri_callVW (fun β => .bool false) (fun β => by kernel_rfl) 47 (fun β => #[.agg #[iV p.ll, iV p.lh, iV p.ul, iV p.uh, .slice p.ea p.es.length p.ec], iV n]) (by kernel_rfl) (fun β extra => by kernel_rfl) (fun β => by kernel_rfl) (fun β w1 k1 h1 => (by have h := revt_any p n w1 hp.ln; rw [hd1] at h; exact h))⟩,
              tri_callVW (fun β => iV 2) (fun β => by kernel_rfl) 46 (fun β => #[.agg #[iV p.ll, iV p.lh, iV p.ul, iV p.uh, .slice p.ea p.es.length p.ec], iV 0, .bool false]) (by kernel_rfl) (fun β extra => by kernel_rfl) (fun β => by kernel_rfl) (fun β w1 k1 h1 => (by have h := check_any p 0 false w1 (hp.keep (k1.keeps (fun _ h => h))); rw [show chkR p 0 false = 2 from by unfold chkR; rw [hd2]; rfl] at h; exact h))⟩,
              tri_quietW (fun β => []) [] [] (fun β => []) (by kernel_rfl) (fun β extra => by kernel_rfl) (by kernel_rfl) (fun β => trivial)⟩
              (fun β => ⟨[(1, iV n), (2, pA b1), (4, pA b2), (5, iV 0), (6, iV 2)], [(b2, aO #[iV 0, iV 0] 23), (b1, aO #[iV p.ll, iV p.lh, iV p.ul, iV p.uh, .slice p.ea p.es.length p.ec] 26)]⟩) (fun β => by kernel_rfl) (fun β3 => ?_)
      refine run_auto [(13, .bool true)] 14 [true] [0] [1, 2, 4, 5] [0, 1] (st' := ⟨[(1, iV n), (2, pA b1), (4, pA b2), (5, iV 2)], [(b2, aO #[iV 0, iV 0] 23), (b1, aO #[iV p.ll, iV p.lh, iV p.ul, iV p.uh, .slice p.ea p.es.length p.ec] 26)]⟩) (acc := [(pA b2, pA b2), (.bool true, .bool true), (.bool true, .bool true)]) (by kernel_rfl) (by kernel_rfl) ⟨rfl, rfl, rfl, trivial⟩ ?_
      refine run_end (fn := f15) rfl (Nat.le_refl _) (by kernel_rfl) [0] [.agg #[iV 0, iV 0], iV 2] (e := [(pA b2, pA b2)]) (by kernel_rfl) ⟨rfl, trivial⟩ (fun w1 k1 h1 => ?_)
      unfold afterR
      rw [hd2, hnb]
      exact ⟨rfl, k1.keeps (fun _ h => h)⟩
  | true =>
    have hnb : decide (0 ≤ n ∧ n < (p.es.length : Int)) = true := by rw [← evt_in]; exact hd1
    have hnr := of_decide_eq_true hnb
    obtain ⟨k, hnk⟩ : ∃ k : Nat, n = (k : Int) := ⟨n.toNat, (Int.toNat_of_nonneg hnr.1).symm⟩
    cases hd2 : p.n.ok with
    | false =>
      refine drawW 6 [{ val := fun _ => .agg #[iV p.ll, iV p.lh, iV p.ul, iV p.uh, .slice p.ea p.es.length p.ec], slots := [2], reads := [1] },
              { val := fun _ => .agg #[iV p.ll, iV p.lh, iV p.ul, iV p.uh, .slice p.ea p.es.length p.ec], slots := [2], reads := [1] },
              { val := fun _ => iV n, slots := [1] },
              { val := fun _ => .bool true, slots := [8, 9] },
              { val := fun _ => iV 1, slots := [7, 10] },
              { val := fun _ => iV 1, slots := [11] }] [[], [], [], [1, 2], [0, 1, 2, 3], [0, 1, 2, 3, 4]] (by kernel_rfl) (by kernel_rfl) (by kernel_rfl) (by kernel_rfl) [1, 2, 4, 5, 6] [0, 1] (by kernel_rfl)
              ⟨⟨⟨⟨⟨⟨trivial,
              tri_quietW (fun β => []) [0] [0] (fun β => [(pA b1, pA b1)]) (by kernel_rfl) (fun β extra => by kernel_rfl) (by kernel_rfl) (fun β => ⟨rfl, trivial⟩)⟩,
              tri_quietW (fun β => []) [0] [0] (fun β => [(pA b1, pA b1)]) (by kernel_rfl) (fun β extra => by kernel_rfl) (by kernel_rfl) (fun β => ⟨rfl, trivial⟩)⟩,
              tri_quietW (fun β => []) [] [] (fun β => []) (by kernel_rfl) (fun β extra => by kernel_rfl) (by kernel_rfl) (fun β => trivial)⟩,
              tri_callVW (fun β => .bool true) (fun β => by kernel_rfl) 47 (fun β => #[.agg #[iV p.ll, iV p.lh, iV p.ul, iV p.uh, .slice p.ea p.es.length p.ec], iV n]) (by kernel_rfl) (fun β extra => by kernel_rfl) (fun β => by kernel_rfl) (fun β w1 k1 h1 => (by have h := revt_any p n w1 hp.ln; rw [hd1] at h; exact h))⟩,
              tri_callVW (fun β => iV 1) (fun β => by kernel_rfl) 46 (fun β => #[.agg #[iV p.ll, iV p.lh, iV p.ul, iV p.uh, .slice p.ea p.es.length p.ec], iV 0, .bool true]) (by kernel_rfl) (fun β extra => by kernel_rfl) (fun β => by kernel_rfl) (fun β w1 k1 h1 => (by have h := check_any p 0 true w1 (hp.keep (k1.keeps (fun _ h => h))); rw [show chkR p 0 true = 1 from by unfold chkR; rw [hd2]; rfl] at h; exact h))⟩,
              tri_quietW (fun β => []) [] [] (fun β => []) (by kernel_rfl) (fun β extra => by kernel_rfl) (by kernel_rfl) (fun β => trivial)⟩
              (fun β => ⟨[(1, iV n), (2, pA b1), (4, pA b2), (5, iV 0), (6, iV 1)], [(b2, aO #[iV 0, iV 0] 23), (b1, aO #[iV p.ll, iV p.lh, iV p.ul, iV p.uh, .slice p.ea p.es.length p.ec] 26)]⟩) (fun β => by kernel_rfl) (fun β3 => ?_)
      refine run_auto [(13, .bool true)] 14 [true] [0] [1, 2, 4, 5] [0, 1] (st' := ⟨[(1, iV n), (2, pA b1), (4, pA b2), (5, iV 1)], [(b2, aO #[iV 0, iV 0] 23), (b1, aO #[iV p.ll, iV p.lh, iV p.ul, iV p.uh, .slice p.ea p.es.length p.ec] 26)]⟩) (acc := [(pA b2, pA b2), (.bool true, .bool true), (.bool true, .bool true)]) (by kernel_rfl) (by kernel_rfl) ⟨rfl, rfl, rfl, trivial⟩ ?_
      refine run_end (fn := f15) rfl (Nat.le_refl _) (by kernel_rfl) [0] [.agg #[iV 0, iV 0], iV 1] (e := [(pA b2, pA b2)]) (by kernel_rfl) ⟨rfl, trivial⟩ (fun w1 k1 h1 => ?_)
      unfold afterR
      rw [hd2, hnb]
      exact ⟨rfl, k1.keeps (fun _ h => h)⟩
    | true =>
      have hF := Wn.fine hd2
      have hn8 : p.es.length ≤ 8 := hF.n8
      have hal := all_lt hF
      have hl0 : 0 ≤ p.ll ∧ p.ll ≤ p.lh ∧ p.lh ≤ 300 := hF.l
      cases hd3 : p.n.can with
      | false =>
        refine drawW 6 [{ val := fun _ => .agg #[iV p.ll, iV p.lh, iV p.ul, iV p.uh, .slice p.ea p.es.length p.ec], slots := [2], reads := [1] },
                  { val := fun _ => .agg #[iV p.ll, iV p.lh, iV p.ul, iV p.uh, .slice p.ea p.es.length p.ec], slots := [2], reads := [1] },
                  { val := fun _ => iV n, slots := [1] },
                  { val := fun _ => .bool true, slots := [8, 9] },
                  { val := fun _ => iV 10, slots := [7, 10] },
                  { val := fun _ => iV 10, slots := [11] }] [[], [], [], [1, 2], [0, 1, 2, 3], [0, 1, 2, 3, 4]] (by kernel_rfl) (by kernel_rfl) (by kernel_rfl) (by kernel_rfl) [1, 2, 4, 5, 6] [0, 1] (by kernel_rfl)
                  ⟨⟨⟨⟨⟨⟨trivial,
                  tri_quietW (fun β => []) [0] [0] (fun β => [(pA b1, pA b1)]) (by kernel_rfl) (fun β extra => by kernel_rfl) (by kernel_rfl) (fun β => ⟨rfl, trivial⟩)⟩,
                  tri_quietW (fun β => []) [0] [0] (fun β => [(pA b1, pA b1)]) (by kernel_rfl) (fun β extra => by kernel_rfl) (by kernel_rfl) (fun β => ⟨rfl, trivial⟩)⟩,
                  tri_quietW (fun β => []) [] [] (fun β => []) (by kernel_rfl) (fun β extra => by kernel_rfl) (by kernel_rfl) (fun β => trivial)⟩,
                  tri_callVW (fun β => .bool true) (fun β => by kernel_rfl) 47 (fun β => #[.agg #[iV p.ll, iV p.lh, iV p.ul, iV p.uh, .slice p.ea p.es.length p.ec], iV n]) (by kernel_rfl) (fun β extra => by kernel_rfl) (fun β => by kernel_rfl) (fun β w1 k1 h1 => (by have h := revt_any p n w1 hp.ln; rw [hd1] at h; exact h))⟩,
                  tri_callVW (fun β => iV 10) (fun β => by kernel_rfl) 46 (fun β => #[.agg #[iV p.ll, iV p.lh, iV p.ul, iV p.uh, .slice p.ea p.es.length p.ec], iV 0, .bool true]) (by kernel_rfl) (fun β extra => by kernel_rfl) (fun β => by kernel_rfl) (fun β w1 k1 h1 => (by have h := check_any p 0 true w1 (hp.keep (k1.keeps (fun _ h => h))); rw [show chkR p 0 true = 10 from by unfold chkR; rw [hd2, hd3]; rfl] at h; exact h))⟩,
                  tri_quietW (fun β => []) [] [] (fun β => []) (by kernel_rfl) (fun β extra => by kernel_rfl) (by kernel_rfl) (fun β => trivial)⟩
                  (fun β => ⟨[(1, iV n), (2, pA b1), (4, pA b2), (5, iV 0), (6, iV 10)], [(b2, aO #[iV 0, iV 0] 23), (b1, aO #[iV p.ll, iV p.lh, iV p.ul, iV p.uh, .slice p.ea p.es.length p.ec] 26)]⟩) (fun β => by kernel_rfl) (fun β3 => ?_)
        refine run_auto [(13, .bool true)] 14 [true] [0] [1, 2, 4, 5] [0, 1] (st' := ⟨[(1, iV n), (2, pA b1), (4, pA b2), (5, iV 10)], [(b2, aO #[iV 0, iV 0] 23), (b1, aO #[iV p.ll, iV p.lh, iV p.ul, iV p.uh, .slice p.ea p.es.length p.ec] 26)]⟩) (acc := [(pA b2, pA b2), (.bool true, .bool true), (.bool true, .bool true)]) (by kernel_rfl) (by kernel_rfl) ⟨rfl, rfl, rfl, trivial⟩ ?_
        refine run_end (fn := f15) rfl (Nat.le_refl _) (by kernel_rfl) [0] [.agg #[iV 0, iV 0], iV 10] (e := [(pA b2, pA b2)]) (by kernel_rfl) ⟨rfl, trivial⟩ (fun w1 k1 h1 => ?_)
        unfold afterR
        rw [hd2, hnb, hd3]
        exact ⟨rfl, k1.keeps (fun _ h => h)⟩
      | true =>
        refine drawW 6 [{ val := fun _ => .agg #[iV p.ll, iV p.lh, iV p.ul, iV p.uh, .slice p.ea p.es.length p.ec], slots := [2], reads := [1] },
                  { val := fun _ => .agg #[iV p.ll, iV p.lh, iV p.ul, iV p.uh, .slice p.ea p.es.length p.ec], slots := [2], reads := [1] },
                  { val := fun _ => iV n, slots := [1] },
                  { val := fun _ => .bool true, slots := [8, 9] },
                  { val := fun _ => iV 0, slots := [7, 10] },
                  { val := fun _ => iV 0, slots := [11] }] [[], [], [], [1, 2], [0, 1, 2, 3], [0, 1, 2, 3, 4]] (by kernel_rfl) (by kernel_rfl) (by kernel_rfl) (by kernel_rfl) [1, 2, 4, 5, 6] [0, 1] (by kernel_rfl)
                  ⟨⟨⟨⟨⟨⟨trivial,
                  tri_quietW (fun β => []) [0] [0] (fun β => [(pA b1, pA b1)]) (by kernel_rfl) (fun β extra => by kernel_rfl) (by kernel_rfl) (fun β => ⟨rfl, trivial⟩)⟩,
                  tri_quietW (fun β => []) [0] [0] (fun β => [(pA b1, pA b1)]) (by kernel_rfl) (fun β extra => by kernel_rfl) (by kernel_rfl) (fun β => ⟨rfl, trivial⟩)⟩,
                  tri_quietW (fun β => []) [] [] (fun β => []) (by kernel_rfl) (fun β extra => by kernel_rfl) (by kernel_rfl) (fun β => trivial)⟩,
                  tri_callVW (fun β => .bool true) (fun β => by kernel_rfl) 47 (fun β => #[.agg #[iV p.ll, iV p.lh, iV p.ul, iV p.uh, .slice p.ea p.es.length p.ec], iV n]) (by kernel_rfl) (fun β extra => by kernel_rfl) (fun β => by kernel_rfl) (fun β w1 k1 h1 => (by have h := revt_any p n w1 hp.ln; rw [hd1] at h; exact h))⟩,
                  tri_callVW (fun β => iV 0) (fun β => by kernel_rfl) 46 (fun β => #[.agg #[iV p.ll, iV p.lh, iV p.ul, iV p.uh, .slice p.ea p.es.length p.ec], iV 0, .bool true]) (by kernel_rfl) (fun β extra => by kernel_rfl) (fun β => by kernel_rfl) (fun β w1 k1 h1 => (by have h := check_any p 0 true w1 (hp.keep (k1.keeps (fun _ h => h))); rw [show chkR p 0 true = 0 from by unfold chkR; rw [hd2, hd3]; rfl] at h; exact h))⟩,
                  tri_quietW (fun β => []) [] [] (fun β => []) (by kernel_rfl) (fun β extra => by kernel_rfl) (by kernel_rfl) (fun β => trivial)⟩
                  (fun β => ⟨[(1, iV n), (2, pA b1), (4, pA b2), (5, iV 0), (6, iV 0)], [(b2, aO #[iV 0, iV 0] 23), (b1, aO #[iV p.ll, iV p.lh, iV p.ul, iV p.uh, .slice p.ea p.es.length p.ec] 26)]⟩) (fun β => by kernel_rfl) (fun β3 => ?_)
        refine run_auto [(13, .bool false), (18, iV ((k + 1 : Nat) : Int))] 13 [false] [1] [4, 5, 16, 18] [0] (st' := ⟨[(4, pA b2), (5, iV 0), (16, .agg #[iV p.ll, iV p.lh, iV p.ul, iV p.uh, .slice p.ea p.es.length p.ec]), (18, iV ((k + 1 : Nat) : Int))], [(b2, aO #[iV 0, iV 0] 23)]⟩) (acc := [(iV (IntKind.i64.wrap (n + 1)), iV ((k + 1 : Nat) : Int)), (pA b1, pA b1), (.bool false, .bool false), (.bool false, .bool false)]) (by kernel_rfl) (by kernel_rfl) ⟨((wr (by omega) (by omega)).trans (io (by omega))), rfl, rfl, rfl, trivial⟩ ?_
        refine run_ret1 48 #[.agg #[iV p.ll, iV p.lh, iV p.ul, iV p.uh, .slice p.ea p.es.length p.ec], iV ((k + 1 : Nat) : Int)] (some 19) (.agg #[iV ((mC p.n (k + 1 : Nat)).1), iV ((mC p.n (k + 1 : Nat)).2)]) (by kernel_rfl) (fun w1 k1 h1 => rafter_any p (k + 1 : Nat) w1 (hp.keep (k1.keeps (fun _ h => h))) hF hd3 (by omega)) ?_
        refine run_auto [] 3 [] [0] [4, 5] [0] (st' := ⟨[(4, pA b2), (5, iV 0)], [(b2, aO #[iV ((mC p.n (k + 1 : Nat)).1), iV ((mC p.n (k + 1 : Nat)).2)] 23)]⟩) (acc := [(pA b2, pA b2)]) (by kernel_rfl) (by kernel_rfl) ⟨rfl, trivial⟩ ?_
        refine run_end (fn := f15) rfl (Nat.le_refl _) (by kernel_rfl) [0] [.agg #[iV ((mC p.n (k + 1 : Nat)).1), iV ((mC p.n (k + 1 : Nat)).2)], iV 0] (e := [(pA b2, pA b2)]) (by kernel_rfl) ⟨rfl, trivial⟩ (fun w1 k1 h1 => ?_)
        unfold afterR
        rw [hd2, hnb, hd3]
        rw [show n.toNat + 1 = (k + 1 : Nat) from by omega]
        exact ⟨rfl, k1.keeps (fun _ h => h)⟩

set_option maxRecDepth 100000 in
theorem rFits_any (p : Wb) (s : Sp) (w : World) (hp : p.In w) : Calls Tryz.prog 21 #[.agg #[.int .i64 p.ll, .int .i64 p.lh, .int .i64 p.ul, .int .i64 p.uh, .slice p.ea p.es.length p.ec], .agg #[.int .i64 s.1, .int .i64 s.2]] w (Ret (.tuple #[.int .i64 (inA (fitsR p s)), .int .i64 (erA (fitsR p s))]) w) := by
  refine calls_run (fn := f21) (c := (f21.body).getD .skip) [.agg #[.int .i64 p.ll, .int .i64 p.lh, .int .i64 p.ul, .int .i64 p.uh, .slice p.ea p.es.length p.ec], .agg #[.int .i64 s.1, .int .i64 s.2]] func21 (by kernel_rfl) (fun _ => False) [] (fun _ h => by cases h) (List.Pairwise.nil) 44 (by kernel_rfl) (by simp) ?_
  refine run_auto [] 2 [] [] [0, 1] [] (st' := ⟨[(0, .agg #[iV p.ll, iV p.lh, iV p.ul, iV p.uh, .slice p.ea p.es.length p.ec]), (1, .agg #[iV s.1, iV s.2])], []⟩) (acc := []) (by kernel_rfl) (by kernel_rfl) trivial ?_
  refine run_new (aO #[iV p.ll, iV p.lh, iV p.ul, iV p.uh, .slice p.ea p.es.length p.ec] 26) (fun b1 => pA b1) (some 2) (fun _ => by kernel_rfl) (fun b1 hb1 => ?_)
  refine run_new (aO #[iV s.1, iV s.2] 23) (fun b2 => pA b2) (some 3) (fun _ => by kernel_rfl) (fun b2 hb2 => ?_)
  refine run_auto [] 4 [] [] [2, 3, 4, 5] [0, 1] (st' := ⟨[(2, pA b1), (3, pA b2), (4, iV 0), (5, iV 0)], [(b2, aO #[iV s.1, iV s.2] 23), (b1, aO #[iV p.ll, iV p.lh, iV p.ul, iV p.uh, .slice p.ea p.es.length p.ec] 26)]⟩) (acc := []) (by kernel_rfl) (by kernel_rfl) trivial ?_
  cases hd1 : (spI s (-1000) 1000) with
  | false =>
    cases hd2 : p.n.ok with
    | false =>
      refine drawW 5 [{ val := fun _ => .agg #[iV p.ll, iV p.lh, iV p.ul, iV p.uh, .slice p.ea p.es.length p.ec], slots := [2], reads := [1] },
              { val := fun _ => .agg #[iV s.1, iV s.2], slots := [3], reads := [0] },
              { val := fun _ => .bool false, slots := [9] },
              { val := fun _ => iV 1, slots := [8, 10] },
              { val := fun _ => iV 1, slots := [11] }] [[], [], [1], [0, 1, 2], [0, 1, 2, 3]] (by kernel_rfl) (by kernel_rfl) (by kernel_rfl) (by kernel_rfl) [2, 3, 4, 5, 6] [0, 1] (by kernel_rfl)
              ⟨⟨⟨⟨⟨trivial,
              tri_quietW (fun β => []) [0] [0] (fun β => [(pA b1, pA b1)]) (by kernel_rfl) (fun β extra => by kernel_rfl) (by kernel_rfl) (fun β => ⟨rfl, trivial⟩)⟩,
              tri_quietW (fun β => []) [0] [0] (fun β => [(pA b2, pA b2)]) (by kernel_rfl) (fun β extra => by kernel_rfl) (by kernel_rfl) (fun β => ⟨rfl, trivial⟩)⟩,
              tri_callVW (fun β => .bool false) (fun β => by kernel_rfl) 68 (fun β => #[.agg #[iV s.1, iV s.2]]) (by kernel_rfl) (fun β extra => by kernel_rfl) (fun β => by kernel_rfl) (fun β w1 k1 h1 => (by have h := rshows_any s w1; rw [hd1] at h; exact h))⟩,
              tri_callVW (fun β => iV 1) (fun β => by kernel_rfl) 46 (fun β => #[.agg #[iV p.ll, iV p.lh, iV p.ul, iV p.uh, .slice p.ea p.es.length p.ec], iV 0, .bool false]) (by kernel_rfl) (fun β extra => by kernel_rfl) (fun β => by kernel_rfl) (fun β w1 k1 h1 => (by have h := check_any p 0 false w1 (hp.keep (k1.keeps (fun _ h => h))); rw [show chkR p 0 false = 1 from by unfold chkR; rw [hd2]; rfl] at h; exact h))⟩,
              tri_quietW (fun β => []) [] [] (fun β => []) (by kernel_rfl) (fun β extra => by kernel_rfl) (by kernel_rfl) (fun β => trivial)⟩
              (fun β => ⟨[(2, pA b1), (3, pA b2), (4, iV 0), (5, iV 0), (6, iV 1)], [(b2, aO #[iV s.1, iV s.2] 23), (b1, aO #[iV p.ll, iV p.lh, iV p.ul, iV p.uh, .slice p.ea p.es.length p.ec] 26)]⟩) (fun β => by kernel_rfl) (fun β3 => ?_)
      refine run_auto [(13, .bool true)] 13 [true] [] [2, 3, 4, 5] [0, 1] (st' := ⟨[(2, pA b1), (3, pA b2), (4, iV 0), (5, iV 1)], [(b2, aO #[iV s.1, iV s.2] 23), (b1, aO #[iV p.ll, iV p.lh, iV p.ul, iV p.uh, .slice p.ea p.es.length p.ec] 26)]⟩) (acc := [(.bool true, .bool true), (.bool true, .bool true)]) (by kernel_rfl) (by kernel_rfl) ⟨rfl, rfl, trivial⟩ ?_
      refine run_end (fn := f21) rfl (Nat.le_refl _) (by kernel_rfl) [] [iV 0, iV 1] (e := []) (by kernel_rfl) trivial (fun w1 k1 h1 => ?_)
      unfold fitsR
      rw [hd2, hd1]
      exact ⟨rfl, k1.keeps (fun _ h => h)⟩
    | true =>
      have hF := Wn.fine hd2
      have hn8 : p.es.length ≤ 8 := hF.n8
      have hal := all_lt hF
      have hl0 : 0 ≤ p.ll ∧ p.ll ≤ p.lh ∧ p.lh ≤ 300 := hF.l
      refine drawW 5 [{ val := fun _ => .agg #[iV p.ll, iV p.lh, iV p.ul, iV p.uh, .slice p.ea p.es.length p.ec], slots := [2], reads := [1] },
              { val := fun _ => .agg #[iV s.1, iV s.2], slots := [3], reads := [0] },
              { val := fun _ => .bool false, slots := [9] },
              { val := fun _ => iV 2, slots := [8, 10] },
              { val := fun _ => iV 2, slots := [11] }] [[], [], [1], [0, 1, 2], [0, 1, 2, 3]] (by kernel_rfl) (by kernel_rfl) (by kernel_rfl) (by kernel_rfl) [2, 3, 4, 5, 6] [0, 1] (by kernel_rfl)
              ⟨⟨⟨⟨⟨trivial,
              tri_quietW (fun β => []) [0] [0] (fun β => [(pA b1, pA b1)]) (by kernel_rfl) (fun β extra => by kernel_rfl) (by kernel_rfl) (fun β => ⟨rfl, trivial⟩)⟩,
              tri_quietW (fun β => []) [0] [0] (fun β => [(pA b2, pA b2)]) (by kernel_rfl) (fun β extra => by kernel_rfl) (by kernel_rfl) (fun β => ⟨rfl, trivial⟩)⟩,
              tri_callVW (fun β => .bool false) (fun β => by kernel_rfl) 68 (fun β => #[.agg #[iV s.1, iV s.2]]) (by kernel_rfl) (fun β extra => by kernel_rfl) (fun β => by kernel_rfl) (fun β w1 k1 h1 => (by have h := rshows_any s w1; rw [hd1] at h; exact h))⟩,
              tri_callVW (fun β => iV 2) (fun β => by kernel_rfl) 46 (fun β => #[.agg #[iV p.ll, iV p.lh, iV p.ul, iV p.uh, .slice p.ea p.es.length p.ec], iV 0, .bool false]) (by kernel_rfl) (fun β extra => by kernel_rfl) (fun β => by kernel_rfl) (fun β w1 k1 h1 => (by have h := check_any p 0 false w1 (hp.keep (k1.keeps (fun _ h => h))); rw [show chkR p 0 false = 2 from by unfold chkR; rw [hd2]; rfl] at h; exact h))⟩,
              tri_quietW (fun β => []) [] [] (fun β => []) (by kernel_rfl) (fun β extra => by kernel_rfl) (by kernel_rfl) (fun β => trivial)⟩
              (fun β => ⟨[(2, pA b1), (3, pA b2), (4, iV 0), (5, iV 0), (6, iV 2)], [(b2, aO #[iV s.1, iV s.2] 23), (b1, aO #[iV p.ll, iV p.lh, iV p.ul, iV p.uh, .slice p.ea p.es.length p.ec] 26)]⟩) (fun β => by kernel_rfl) (fun β3 => ?_)
      refine run_auto [(13, .bool true)] 13 [true] [] [2, 3, 4, 5] [0, 1] (st' := ⟨[(2, pA b1), (3, pA b2), (4, iV 0), (5, iV 2)], [(b2, aO #[iV s.1, iV s.2] 23), (b1, aO #[iV p.ll, iV p.lh, iV p.ul, iV p.uh, .slice p.ea p.es.length p.ec] 26)]⟩) (acc := [(.bool true, .bool true), (.bool true, .bool true)]) (by kernel_rfl) (by kernel_rfl) ⟨rfl, rfl, trivial⟩ ?_
      refine run_end (fn := f21) rfl (Nat.le_refl _) (by kernel_rfl) [] [iV 0, iV 2] (e := []) (by kernel_rfl) trivial (fun w1 k1 h1 => ?_)
      unfold fitsR
      rw [hd2, hd1]
      exact ⟨rfl, k1.keeps (fun _ h => h)⟩
  | true =>
    have hsv := of_decide_eq_true (show decide _ = true from hd1)
    cases hd2 : p.n.ok with
    | false =>
      refine drawW 5 [{ val := fun _ => .agg #[iV p.ll, iV p.lh, iV p.ul, iV p.uh, .slice p.ea p.es.length p.ec], slots := [2], reads := [1] },
              { val := fun _ => .agg #[iV s.1, iV s.2], slots := [3], reads := [0] },
              { val := fun _ => .bool true, slots := [9] },
              { val := fun _ => iV 1, slots := [8, 10] },
              { val := fun _ => iV 1, slots := [11] }] [[], [], [1], [0, 1, 2], [0, 1, 2, 3]] (by kernel_rfl) (by kernel_rfl) (by kernel_rfl) (by kernel_rfl) [2, 3, 4, 5, 6] [0, 1] (by kernel_rfl)
              ⟨⟨⟨⟨⟨trivial,
              tri_quietW (fun β => []) [0] [0] (fun β => [(pA b1, pA b1)]) (by kernel_rfl) (fun β extra => by kernel_rfl) (by kernel_rfl) (fun β => ⟨rfl, trivial⟩)⟩,
              tri_quietW (fun β => []) [0] [0] (fun β => [(pA b2, pA b2)]) (by kernel_rfl) (fun β extra => by kernel_rfl) (by kernel_rfl) (fun β => ⟨rfl, trivial⟩)⟩,
              tri_callVW (fun β => .bool true) (fun β => by kernel_rfl) 68 (fun β => #[.agg #[iV s.1, iV s.2]]) (by kernel_rfl) (fun β extra => by kernel_rfl) (fun β => by kernel_rfl) (fun β w1 k1 h1 => (by have h := rshows_any s w1; rw [hd1] at h; exact h))⟩,
              tri_callVW (fun β => iV 1) (fun β => by kernel_rfl) 46 (fun β => #[.agg #[iV p.ll, iV p.lh, iV p.ul, iV p.uh, .slice p.ea p.es.length p.ec], iV 0, .bool true]) (by kernel_rfl) (fun β extra => by kernel_rfl) (fun β => by kernel_rfl) (fun β w1 k1 h1 => (by have h := check_any p 0 true w1 (hp.keep (k1.keeps (fun _ h => h))); rw [show chkR p 0 true = 1 from by unfold chkR; rw [hd2]; rfl] at h; exact h))⟩,
              tri_quietW (fun β => []) [] [] (fun β => []) (by kernel_rfl) (fun β extra => by kernel_rfl) (by kernel_rfl) (fun β => trivial)⟩
              (fun β => ⟨[(2, pA b1), (3, pA b2), (4, iV 0), (5, iV 0), (6, iV 1)], [(b2, aO #[iV s.1, iV s.2] 23), (b1, aO #[iV p.ll, iV p.lh, iV p.ul, iV p.uh, .slice p.ea p.es.length p.ec] 26)]⟩) (fun β => by kernel_rfl) (fun β3 => ?_)
      refine run_auto [(13, .bool true)] 13 [true] [] [2, 3, 4, 5] [0, 1] (st' := ⟨[(2, pA b1), (3, pA b2), (4, iV 0), (5, iV 1)], [(b2, aO #[iV s.1, iV s.2] 23), (b1, aO #[iV p.ll, iV p.lh, iV p.ul, iV p.uh, .slice p.ea p.es.length p.ec] 26)]⟩) (acc := [(.bool true, .bool true), (.bool true, .bool true)]) (by kernel_rfl) (by kernel_rfl) ⟨rfl, rfl, trivial⟩ ?_
      refine run_end (fn := f21) rfl (Nat.le_refl _) (by kernel_rfl) [] [iV 0, iV 1] (e := []) (by kernel_rfl) trivial (fun w1 k1 h1 => ?_)
      unfold fitsR
      rw [hd2, hd1]
      exact ⟨rfl, k1.keeps (fun _ h => h)⟩
    | true =>
      have hF := Wn.fine hd2
      have hn8 : p.es.length ≤ 8 := hF.n8
      have hal := all_lt hF
      have hl0 : 0 ≤ p.ll ∧ p.ll ≤ p.lh ∧ p.lh ≤ 300 := hF.l
      cases hd3 : p.n.can with
      | false =>
        refine drawW 5 [{ val := fun _ => .agg #[iV p.ll, iV p.lh, iV p.ul, iV p.uh, .slice p.ea p.es.length p.ec], slots := [2], reads := [1] },
                  { val := fun _ => .agg #[iV s.1, iV s.2], slots := [3], reads := [0] },
                  { val := fun _ => .bool true, slots := [9] },
                  { val := fun _ => iV 10, slots := [8, 10] },
                  { val := fun _ => iV 10, slots := [11] }] [[], [], [1], [0, 1, 2], [0, 1, 2, 3]] (by kernel_rfl) (by kernel_rfl) (by kernel_rfl) (by kernel_rfl) [2, 3, 4, 5, 6] [0, 1] (by kernel_rfl)
                  ⟨⟨⟨⟨⟨trivial,
                  tri_quietW (fun β => []) [0] [0] (fun β => [(pA b1, pA b1)]) (by kernel_rfl) (fun β extra => by kernel_rfl) (by kernel_rfl) (fun β => ⟨rfl, trivial⟩)⟩,
                  tri_quietW (fun β => []) [0] [0] (fun β => [(pA b2, pA b2)]) (by kernel_rfl) (fun β extra => by kernel_rfl) (by kernel_rfl) (fun β => ⟨rfl, trivial⟩)⟩,
                  tri_callVW (fun β => .bool true) (fun β => by kernel_rfl) 68 (fun β => #[.agg #[iV s.1, iV s.2]]) (by kernel_rfl) (fun β extra => by kernel_rfl) (fun β => by kernel_rfl) (fun β w1 k1 h1 => (by have h := rshows_any s w1; rw [hd1] at h; exact h))⟩,
                  tri_callVW (fun β => iV 10) (fun β => by kernel_rfl) 46 (fun β => #[.agg #[iV p.ll, iV p.lh, iV p.ul, iV p.uh, .slice p.ea p.es.length p.ec], iV 0, .bool true]) (by kernel_rfl) (fun β extra => by kernel_rfl) (fun β => by kernel_rfl) (fun β w1 k1 h1 => (by have h := check_any p 0 true w1 (hp.keep (k1.keeps (fun _ h => h))); rw [show chkR p 0 true = 10 from by unfold chkR; rw [hd2, hd3]; rfl] at h; exact h))⟩,
                  tri_quietW (fun β => []) [] [] (fun β => []) (by kernel_rfl) (fun β extra => by kernel_rfl) (by kernel_rfl) (fun β => trivial)⟩
                  (fun β => ⟨[(2, pA b1), (3, pA b2), (4, iV 0), (5, iV 0), (6, iV 10)], [(b2, aO #[iV s.1, iV s.2] 23), (b1, aO #[iV p.ll, iV p.lh, iV p.ul, iV p.uh, .slice p.ea p.es.length p.ec] 26)]⟩) (fun β => by kernel_rfl) (fun β3 => ?_)
        refine run_auto [(13, .bool true)] 13 [true] [] [2, 3, 4, 5] [0, 1] (st' := ⟨[(2, pA b1), (3, pA b2), (4, iV 0), (5, iV 10)], [(b2, aO #[iV s.1, iV s.2] 23), (b1, aO #[iV p.ll, iV p.lh, iV p.ul, iV p.uh, .slice p.ea p.es.length p.ec] 26)]⟩) (acc := [(.bool true, .bool true), (.bool true, .bool true)]) (by kernel_rfl) (by kernel_rfl) ⟨rfl, rfl, trivial⟩ ?_
        refine run_end (fn := f21) rfl (Nat.le_refl _) (by kernel_rfl) [] [iV 0, iV 10] (e := []) (by kernel_rfl) trivial (fun w1 k1 h1 => ?_)
        unfold fitsR
        rw [hd2, hd1, hd3]
        exact ⟨rfl, k1.keeps (fun _ h => h)⟩
      | true =>
        have hCp := mC_poss hF hd3 (Nat.le_refl p.es.length)
        refine drawW 5 [{ val := fun _ => .agg #[iV p.ll, iV p.lh, iV p.ul, iV p.uh, .slice p.ea p.es.length p.ec], slots := [2], reads := [1] },
                  { val := fun _ => .agg #[iV s.1, iV s.2], slots := [3], reads := [0] },
                  { val := fun _ => .bool true, slots := [9] },
                  { val := fun _ => iV 0, slots := [8, 10] },
                  { val := fun _ => iV 0, slots := [11] }] [[], [], [1], [0, 1, 2], [0, 1, 2, 3]] (by kernel_rfl) (by kernel_rfl) (by kernel_rfl) (by kernel_rfl) [2, 3, 4, 5, 6] [0, 1] (by kernel_rfl)
                  ⟨⟨⟨⟨⟨trivial,
                  tri_quietW (fun β => []) [0] [0] (fun β => [(pA b1, pA b1)]) (by kernel_rfl) (fun β extra => by kernel_rfl) (by kernel_rfl) (fun β => ⟨rfl, trivial⟩)⟩,
                  tri_quietW (fun β => []) [0] [0] (fun β => [(pA b2, pA b2)]) (by kernel_rfl) (fun β extra => by kernel_rfl) (by kernel_rfl) (fun β => ⟨rfl, trivial⟩)⟩,
                  tri_callVW (fun β => .bool true) (fun β => by kernel_rfl) 68 (fun β => #[.agg #[iV s.1, iV s.2]]) (by kernel_rfl) (fun β extra => by kernel_rfl) (fun β => by kernel_rfl) (fun β w1 k1 h1 => (by have h := rshows_any s w1; rw [hd1] at h; exact h))⟩,
                  tri_callVW (fun β => iV 0) (fun β => by kernel_rfl) 46 (fun β => #[.agg #[iV p.ll, iV p.lh, iV p.ul, iV p.uh, .slice p.ea p.es.length p.ec], iV 0, .bool true]) (by kernel_rfl) (fun β extra => by kernel_rfl) (fun β => by kernel_rfl) (fun β w1 k1 h1 => (by have h := check_any p 0 true w1 (hp.keep (k1.keeps (fun _ h => h))); rw [show chkR p 0 true = 0 from by unfold chkR; rw [hd2, hd3]; rfl] at h; exact h))⟩,
                  tri_quietW (fun β => []) [] [] (fun β => []) (by kernel_rfl) (fun β extra => by kernel_rfl) (by kernel_rfl) (fun β => trivial)⟩
                  (fun β => ⟨[(2, pA b1), (3, pA b2), (4, iV 0), (5, iV 0), (6, iV 0)], [(b2, aO #[iV s.1, iV s.2] 23), (b1, aO #[iV p.ll, iV p.lh, iV p.ul, iV p.uh, .slice p.ea p.es.length p.ec] 26)]⟩) (fun β => by kernel_rfl) (fun β3 => ?_)
        refine run_auto [(13, .bool false)] 14 [false] [1, 1] [3, 4, 5, 15, 18] [0] (st' := ⟨[(3, pA b2), (4, iV 0), (5, iV 0), (15, .agg #[iV p.ll, iV p.lh, iV p.ul, iV p.uh, .slice p.ea p.es.length p.ec]), (18, iV (p.es.length : Int))], [(b2, aO #[iV s.1, iV s.2] 23)]⟩) (acc := [(pA b1, pA b1), (pA b1, pA b1), (.bool false, .bool false), (.bool false, .bool false)]) (by kernel_rfl) (by kernel_rfl) ⟨rfl, rfl, rfl, rfl, trivial⟩ ?_
        refine run_ret1 48 #[.agg #[iV p.ll, iV p.lh, iV p.ul, iV p.uh, .slice p.ea p.es.length p.ec], iV (p.es.length : Int)] (some 19) (.agg #[iV (mC p.n p.es.length).1, iV (mC p.n p.es.length).2]) (by kernel_rfl) (fun w1 k1 h1 => rafter_any p p.es.length w1 (hp.keep (k1.keeps (fun _ h => h))) hF hd3 (by omega)) ?_
        refine run_new (aO #[iV 0, iV 0] 23) (fun b4 => pA b4) (some 7) (fun _ => by kernel_rfl) (fun b4 hb4 => ?_)
        cases hd4 : (decide (s.1 ≤ (mC p.n p.es.length).1)) with
        | false =>
          have hp4 := of_decide_eq_false hd4
          cases hd5 : (decide ((mC p.n p.es.length).2 < s.1)) with
          | false =>
            have hp5 := of_decide_eq_false hd5
            cases hd6 : (decide (s.2 < (mC p.n p.es.length).1)) with
            | false =>
              have hp6 := of_decide_eq_false hd6
              refine run_auto [(24, .bool false), (36, .bool false), (42, .bool false)] 43 [false, false] [0, 1, 0, 0, 1, 0, 1] [4, 5] [] (st' := ⟨[(4, iV 1), (5, iV 0)], []⟩) (acc := [(.bool false, .bool false), (.bool (decide (s.2 < (mC p.n p.es.length).1)), .bool false), (pA b2, pA b2), (pA b4, pA b4), (.bool (decide ((mC p.n p.es.length).2 < s.1)), .bool false), (pA b2, pA b2), (pA b4, pA b4), (.bool false, .bool false), (.bool (decide (s.1 ≤ (mC p.n p.es.length).1)), .bool false), (pA b4, pA b4), (pA b2, pA b2), (pA b4, pA b4)]) (by kernel_rfl) (by kernel_rfl) ⟨rfl, (bo hd6), rfl, rfl, (bo hd5), rfl, rfl, rfl, (bo hd4), rfl, rfl, rfl, trivial⟩ ?_
              refine run_end (fn := f21) rfl (Nat.le_refl _) (by kernel_rfl) [] [iV 1, iV 0] (e := []) (by kernel_rfl) trivial (fun w1 k1 h1 => ?_)
              unfold fitsR
              rw [hd2, hd1, hd3]
              have hj : judV (mC p.n p.es.length) s = 1 := by
                unfold judV
                rw [show decide (s.1 ≤ (mC p.n p.es.length).1 ∧ (mC p.n p.es.length).2 ≤ s.2) = false from decide_eq_false (by omega)]
                rw [show possS (cutS (mC p.n p.es.length) s) = true from by unfold possS cutS; exact decide_eq_true (by dsimp only; omega)]
                rfl
              rw [hj]
              exact ⟨rfl, k1.keeps (fun _ h => h)⟩
            | true =>
              have hp6 := of_decide_eq_true hd6
              refine run_auto [(24, .bool false), (36, .bool false), (42, .bool true)] 42 [false, true] [0, 1, 0, 0, 1, 0, 1] [4, 5] [] (st' := ⟨[(4, iV 0), (5, iV 0)], []⟩) (acc := [(.bool true, .bool true), (.bool (decide (s.2 < (mC p.n p.es.length).1)), .bool true), (pA b2, pA b2), (pA b4, pA b4), (.bool (decide ((mC p.n p.es.length).2 < s.1)), .bool false), (pA b2, pA b2), (pA b4, pA b4), (.bool false, .bool false), (.bool (decide (s.1 ≤ (mC p.n p.es.length).1)), .bool false), (pA b4, pA b4), (pA b2, pA b2), (pA b4, pA b4)]) (by kernel_rfl) (by kernel_rfl) ⟨rfl, (bo hd6), rfl, rfl, (bo hd5), rfl, rfl, rfl, (bo hd4), rfl, rfl, rfl, trivial⟩ ?_
              refine run_end (fn := f21) rfl (Nat.le_refl _) (by kernel_rfl) [] [iV 0, iV 0] (e := []) (by kernel_rfl) trivial (fun w1 k1 h1 => ?_)
              unfold fitsR
              rw [hd2, hd1, hd3]
              have hj : judV (mC p.n p.es.length) s = 0 := by
                unfold judV
                rw [show decide (s.1 ≤ (mC p.n p.es.length).1 ∧ (mC p.n p.es.length).2 ≤ s.2) = false from decide_eq_false (by omega)]
                rw [show possS (cutS (mC p.n p.es.length) s) = false from by unfold possS cutS; exact decide_eq_false (by dsimp only; omega)]
                rfl
              rw [hj]
              exact ⟨rfl, k1.keeps (fun _ h => h)⟩
          | true =>
            have hp5 := of_decide_eq_true hd5
            refine run_auto [(24, .bool false), (36, .bool true)] 42 [false, true] [0, 1, 0, 0, 1] [4, 5] [] (st' := ⟨[(4, iV 0), (5, iV 0)], []⟩) (acc := [(.bool true, .bool true), (.bool (decide ((mC p.n p.es.length).2 < s.1)), .bool true), (pA b2, pA b2), (pA b4, pA b4), (.bool false, .bool false), (.bool (decide (s.1 ≤ (mC p.n p.es.length).1)), .bool false), (pA b4, pA b4), (pA b2, pA b2), (pA b4, pA b4)]) (by kernel_rfl) (by kernel_rfl) ⟨rfl, (bo hd5), rfl, rfl, rfl, (bo hd4), rfl, rfl, rfl, trivial⟩ ?_
            refine run_end (fn := f21) rfl (Nat.le_refl _) (by kernel_rfl) [] [iV 0, iV 0] (e := []) (by kernel_rfl) trivial (fun w1 k1 h1 => ?_)
            unfold fitsR
            rw [hd2, hd1, hd3]
            have hj : judV (mC p.n p.es.length) s = 0 := by
              unfold judV
              rw [show decide (s.1 ≤ (mC p.n p.es.length).1 ∧ (mC p.n p.es.length).2 ≤ s.2) = false from decide_eq_false (by omega)]
              rw [show possS (cutS (mC p.n p.es.length) s) = false from by unfold possS cutS; exact decide_eq_false (by dsimp only; omega)]
              rfl
            rw [hj]
            exact ⟨rfl, k1.keeps (fun _ h => h)⟩
        | true =>
          have hp4 := of_decide_eq_true hd4
          cases hd5 : (decide ((mC p.n p.es.length).2 ≤ s.2)) with
          | false =>
            have hp5 := of_decide_eq_false hd5
            cases hd6 : (decide ((mC p.n p.es.length).2 < s.1)) with
            | false =>
              have hp6 := of_decide_eq_false hd6
              cases hd7 : (decide (s.2 < (mC p.n p.es.length).1)) with
              | false =>
                have hp7 := of_decide_eq_false hd7
                refine run_auto [(24, .bool true), (30, .bool false), (36, .bool false), (42, .bool false)] 43 [false, false] [0, 1, 0, 0, 1, 0, 1, 0, 1] [4, 5] [] (st' := ⟨[(4, iV 1), (5, iV 0)], []⟩) (acc := [(.bool false, .bool false), (.bool (decide (s.2 < (mC p.n p.es.length).1)), .bool false), (pA b2, pA b2), (pA b4, pA b4), (.bool (decide ((mC p.n p.es.length).2 < s.1)), .bool false), (pA b2, pA b2), (pA b4, pA b4), (.bool false, .bool false), (.bool (decide ((mC p.n p.es.length).2 ≤ s.2)), .bool false), (pA b2, pA b2), (pA b4, pA b4), (.bool (decide (s.1 ≤ (mC p.n p.es.length).1)), .bool true), (pA b4, pA b4), (pA b2, pA b2), (pA b4, pA b4)]) (by kernel_rfl) (by kernel_rfl) ⟨rfl, (bo hd7), rfl, rfl, (bo hd6), rfl, rfl, rfl, (bo hd5), rfl, rfl, (bo hd4), rfl, rfl, rfl, trivial⟩ ?_
                refine run_end (fn := f21) rfl (Nat.le_refl _) (by kernel_rfl) [] [iV 1, iV 0] (e := []) (by kernel_rfl) trivial (fun w1 k1 h1 => ?_)
                unfold fitsR
                rw [hd2, hd1, hd3]
                have hj : judV (mC p.n p.es.length) s = 1 := by
                  unfold judV
                  rw [show decide (s.1 ≤ (mC p.n p.es.length).1 ∧ (mC p.n p.es.length).2 ≤ s.2) = false from decide_eq_false (by omega)]
                  rw [show possS (cutS (mC p.n p.es.length) s) = true from by unfold possS cutS; exact decide_eq_true (by dsimp only; omega)]
                  rfl
                rw [hj]
                exact ⟨rfl, k1.keeps (fun _ h => h)⟩
              | true =>
                have hp7 := of_decide_eq_true hd7
                refine run_auto [(24, .bool true), (30, .bool false), (36, .bool false), (42, .bool true)] 42 [false, true] [0, 1, 0, 0, 1, 0, 1, 0, 1] [4, 5] [] (st' := ⟨[(4, iV 0), (5, iV 0)], []⟩) (acc := [(.bool true, .bool true), (.bool (decide (s.2 < (mC p.n p.es.length).1)), .bool true), (pA b2, pA b2), (pA b4, pA b4), (.bool (decide ((mC p.n p.es.length).2 < s.1)), .bool false), (pA b2, pA b2), (pA b4, pA b4), (.bool false, .bool false), (.bool (decide ((mC p.n p.es.length).2 ≤ s.2)), .bool false), (pA b2, pA b2), (pA b4, pA b4), (.bool (decide (s.1 ≤ (mC p.n p.es.length).1)), .bool true), (pA b4, pA b4), (pA b2, pA b2), (pA b4, pA b4)]) (by kernel_rfl) (by kernel_rfl) ⟨rfl, (bo hd7), rfl, rfl, (bo hd6), rfl, rfl, rfl, (bo hd5), rfl, rfl, (bo hd4), rfl, rfl, rfl, trivial⟩ ?_
                refine run_end (fn := f21) rfl (Nat.le_refl _) (by kernel_rfl) [] [iV 0, iV 0] (e := []) (by kernel_rfl) trivial (fun w1 k1 h1 => ?_)
                unfold fitsR
                rw [hd2, hd1, hd3]
                have hj : judV (mC p.n p.es.length) s = 0 := by
                  unfold judV
                  rw [show decide (s.1 ≤ (mC p.n p.es.length).1 ∧ (mC p.n p.es.length).2 ≤ s.2) = false from decide_eq_false (by omega)]
                  rw [show possS (cutS (mC p.n p.es.length) s) = false from by unfold possS cutS; exact decide_eq_false (by dsimp only; omega)]
                  rfl
                rw [hj]
                exact ⟨rfl, k1.keeps (fun _ h => h)⟩
            | true =>
              have hp6 := of_decide_eq_true hd6
              refine run_auto [(24, .bool true), (30, .bool false), (36, .bool true)] 42 [false, true] [0, 1, 0, 0, 1, 0, 1] [4, 5] [] (st' := ⟨[(4, iV 0), (5, iV 0)], []⟩) (acc := [(.bool true, .bool true), (.bool (decide ((mC p.n p.es.length).2 < s.1)), .bool true), (pA b2, pA b2), (pA b4, pA b4), (.bool false, .bool false), (.bool (decide ((mC p.n p.es.length).2 ≤ s.2)), .bool false), (pA b2, pA b2), (pA b4, pA b4), (.bool (decide (s.1 ≤ (mC p.n p.es.length).1)), .bool true), (pA b4, pA b4), (pA b2, pA b2), (pA b4, pA b4)]) (by kernel_rfl) (by kernel_rfl) ⟨rfl, (bo hd6), rfl, rfl, rfl, (bo hd5), rfl, rfl, (bo hd4), rfl, rfl, rfl, trivial⟩ ?_
              refine run_end (fn := f21) rfl (Nat.le_refl _) (by kernel_rfl) [] [iV 0, iV 0] (e := []) (by kernel_rfl) trivial (fun w1 k1 h1 => ?_)
              unfold fitsR
              rw [hd2, hd1, hd3]
              have hj : judV (mC p.n p.es.length) s = 0 := by
                unfold judV
                rw [show decide (s.1 ≤ (mC p.n p.es.length).1 ∧ (mC p.n p.es.length).2 ≤ s.2) = false from decide_eq_false (by omega)]
                rw [show possS (cutS (mC p.n p.es.length) s) = false from by unfold possS cutS; exact decide_eq_false (by dsimp only; omega)]
                rfl
              rw [hj]
              exact ⟨rfl, k1.keeps (fun _ h => h)⟩
          | true =>
            have hp5 := of_decide_eq_true hd5
            refine run_auto [(24, .bool true), (30, .bool true)] 24 [true] [0, 1, 0, 0, 1] [3, 4, 5, 7] [0, 1] (st' := ⟨[(3, pA b2), (4, iV 2), (5, iV 0), (7, pA b4)], [(b4, aO #[iV (mC p.n p.es.length).1, iV (mC p.n p.es.length).2] 23), (b2, aO #[iV s.1, iV s.2] 23)]⟩) (acc := [(.bool true, .bool true), (.bool (decide ((mC p.n p.es.length).2 ≤ s.2)), .bool true), (pA b2, pA b2), (pA b4, pA b4), (.bool (decide (s.1 ≤ (mC p.n p.es.length).1)), .bool true), (pA b4, pA b4), (pA b2, pA b2), (pA b4, pA b4)]) (by kernel_rfl) (by kernel_rfl) ⟨rfl, (bo hd5), rfl, rfl, (bo hd4), rfl, rfl, rfl, trivial⟩ ?_
            refine run_end (fn := f21) rfl (Nat.le_refl _) (by kernel_rfl) [] [iV 2, iV 0] (e := []) (by kernel_rfl) trivial (fun w1 k1 h1 => ?_)
            unfold fitsR
            rw [hd2, hd1, hd3]
            have hj : judV (mC p.n p.es.length) s = 2 := by
              unfold judV
              rw [show decide (s.1 ≤ (mC p.n p.es.length).1 ∧ (mC p.n p.es.length).2 ≤ s.2) = true from decide_eq_true (by omega)]
              rfl
            rw [hj]
            exact ⟨rfl, k1.keeps (fun _ h => h)⟩

set_option maxRecDepth 100000 in
theorem rBelow_any (p : Wb) (m : Int) (w : World) (hp : p.In w) : Calls Tryz.prog 19 #[.agg #[.int .i64 p.ll, .int .i64 p.lh, .int .i64 p.ul, .int .i64 p.uh, .slice p.ea p.es.length p.ec], .int .i64 m] w (Ret (.tuple #[.int .i64 (spA (belowR p m)).1, .int .i64 (spA (belowR p m)).2, .int .i64 (erA (belowR p m))]) w) := by
  refine calls_run (fn := f19) (c := (f19.body).getD .skip) [.agg #[.int .i64 p.ll, .int .i64 p.lh, .int .i64 p.ul, .int .i64 p.uh, .slice p.ea p.es.length p.ec], .int .i64 m] func19 (by kernel_rfl) (fun _ => False) [] (fun _ h => by cases h) (List.Pairwise.nil) 48 (by kernel_rfl) (by simp) ?_
  refine run_auto [] 2 [] [] [0, 1] [] (st' := ⟨[(0, .agg #[iV p.ll, iV p.lh, iV p.ul, iV p.uh, .slice p.ea p.es.length p.ec]), (1, iV m)], []⟩) (acc := []) (by kernel_rfl) (by kernel_rfl) trivial ?_
  refine run_new (aO #[iV p.ll, iV p.lh, iV p.ul, iV p.uh, .slice p.ea p.es.length p.ec] 26) (fun b1 => pA b1) (some 2) (fun _ => by kernel_rfl) (fun b1 hb1 => ?_)
  refine run_auto [] 5 [] [] [1, 2, 4, 5, 6] [0] (st' := ⟨[(1, iV m), (2, pA b1), (4, iV 0), (5, iV 0), (6, iV 0)], [(b1, aO #[iV p.ll, iV p.lh, iV p.ul, iV p.uh, .slice p.ea p.es.length p.ec] 26)]⟩) (acc := []) (by kernel_rfl) (by kernel_rfl) trivial ?_
  cases hd1 : (spI (m, m) (-1000) 1000) with
  | false =>
    cases hd2 : p.n.ok with
    | false =>
      refine drawW 5 [{ val := fun _ => .agg #[iV p.ll, iV p.lh, iV p.ul, iV p.uh, .slice p.ea p.es.length p.ec], slots := [2], reads := [0] },
              { val := fun _ => iV m, slots := [1] },
              { val := fun _ => .bool false, slots := [13] },
              { val := fun _ => iV 1, slots := [12, 14] },
              { val := fun _ => iV 1, slots := [15] }] [[], [], [1], [0, 1, 2], [0, 1, 2, 3]] (by kernel_rfl) (by kernel_rfl) (by kernel_rfl) (by kernel_rfl) [1, 2, 4, 5, 6, 7] [0] (by kernel_rfl)
              ⟨⟨⟨⟨⟨trivial,
              tri_quietW (fun β => []) [0] [0] (fun β => [(pA b1, pA b1)]) (by kernel_rfl) (fun β extra => by kernel_rfl) (by kernel_rfl) (fun β => ⟨rfl, trivial⟩)⟩,
              tri_quietW (fun β => []) [] [] (fun β => []) (by kernel_rfl) (fun β extra => by kernel_rfl) (by kernel_rfl) (fun β => trivial)⟩,
              tri_callVW (fun β => .bool false) (fun β => by kernel_rfl) 59 (fun β => #[iV m]) (by kernel_rfl) (fun β extra => by kernel_rfl) (fun β => by kernel_rfl) (fun β w1 k1 h1 => (by have h := rlimit_any m w1; rw [hd1] at h; exact h))⟩,
              tri_callVW (fun β => iV 1) (fun β => by kernel_rfl) 46 (fun β => #[.agg #[iV p.ll, iV p.lh, iV p.ul, iV p.uh, .slice p.ea p.es.length p.ec], iV 0, .bool false]) (by kernel_rfl) (fun β extra => by kernel_rfl) (fun β => by kernel_rfl) (fun β w1 k1 h1 => (by have h := check_any p 0 false w1 (hp.keep (k1.keeps (fun _ h => h))); rw [show chkR p 0 false = 1 from by unfold chkR; rw [hd2]; rfl] at h; exact h))⟩,
              tri_quietW (fun β => []) [] [] (fun β => []) (by kernel_rfl) (fun β extra => by kernel_rfl) (by kernel_rfl) (fun β => trivial)⟩
              (fun β => ⟨[(1, iV m), (2, pA b1), (4, iV 0), (5, iV 0), (6, iV 0), (7, iV 1)], [(b1, aO #[iV p.ll, iV p.lh, iV p.ul, iV p.uh, .slice p.ea p.es.length p.ec] 26)]⟩) (fun β => by kernel_rfl) (fun β2 => ?_)
      refine run_auto [(17, .bool true)] 14 [true] [] [1, 2, 4, 5, 6] [0] (st' := ⟨[(1, iV m), (2, pA b1), (4, iV 0), (5, iV 0), (6, iV 1)], [(b1, aO #[iV p.ll, iV p.lh, iV p.ul, iV p.uh, .slice p.ea p.es.length p.ec] 26)]⟩) (acc := [(.bool true, .bool true), (.bool true, .bool true)]) (by kernel_rfl) (by kernel_rfl) ⟨rfl, rfl, trivial⟩ ?_
      refine run_end (fn := f19) rfl (Nat.le_refl _) (by kernel_rfl) [] [iV 0, iV 0, iV 1] (e := []) (by kernel_rfl) trivial (fun w1 k1 h1 => ?_)
      unfold belowR
      rw [hd2, hd1]
      exact ⟨rfl, k1.keeps (fun _ h => h)⟩
    | true =>
      have hF := Wn.fine hd2
      have hn8 : p.es.length ≤ 8 := hF.n8
      have hal := all_lt hF
      have hl0 : 0 ≤ p.ll ∧ p.ll ≤ p.lh ∧ p.lh ≤ 300 := hF.l
      refine drawW 5 [{ val := fun _ => .agg #[iV p.ll, iV p.lh, iV p.ul, iV p.uh, .slice p.ea p.es.length p.ec], slots := [2], reads := [0] },
              { val := fun _ => iV m, slots := [1] },
              { val := fun _ => .bool false, slots := [13] },
              { val := fun _ => iV 2, slots := [12, 14] },
              { val := fun _ => iV 2, slots := [15] }] [[], [], [1], [0, 1, 2], [0, 1, 2, 3]] (by kernel_rfl) (by kernel_rfl) (by kernel_rfl) (by kernel_rfl) [1, 2, 4, 5, 6, 7] [0] (by kernel_rfl)
              ⟨⟨⟨⟨⟨trivial,
              tri_quietW (fun β => []) [0] [0] (fun β => [(pA b1, pA b1)]) (by kernel_rfl) (fun β extra => by kernel_rfl) (by kernel_rfl) (fun β => ⟨rfl, trivial⟩)⟩,
              tri_quietW (fun β => []) [] [] (fun β => []) (by kernel_rfl) (fun β extra => by kernel_rfl) (by kernel_rfl) (fun β => trivial)⟩,
              tri_callVW (fun β => .bool false) (fun β => by kernel_rfl) 59 (fun β => #[iV m]) (by kernel_rfl) (fun β extra => by kernel_rfl) (fun β => by kernel_rfl) (fun β w1 k1 h1 => (by have h := rlimit_any m w1; rw [hd1] at h; exact h))⟩,
              tri_callVW (fun β => iV 2) (fun β => by kernel_rfl) 46 (fun β => #[.agg #[iV p.ll, iV p.lh, iV p.ul, iV p.uh, .slice p.ea p.es.length p.ec], iV 0, .bool false]) (by kernel_rfl) (fun β extra => by kernel_rfl) (fun β => by kernel_rfl) (fun β w1 k1 h1 => (by have h := check_any p 0 false w1 (hp.keep (k1.keeps (fun _ h => h))); rw [show chkR p 0 false = 2 from by unfold chkR; rw [hd2]; rfl] at h; exact h))⟩,
              tri_quietW (fun β => []) [] [] (fun β => []) (by kernel_rfl) (fun β extra => by kernel_rfl) (by kernel_rfl) (fun β => trivial)⟩
              (fun β => ⟨[(1, iV m), (2, pA b1), (4, iV 0), (5, iV 0), (6, iV 0), (7, iV 2)], [(b1, aO #[iV p.ll, iV p.lh, iV p.ul, iV p.uh, .slice p.ea p.es.length p.ec] 26)]⟩) (fun β => by kernel_rfl) (fun β2 => ?_)
      refine run_auto [(17, .bool true)] 14 [true] [] [1, 2, 4, 5, 6] [0] (st' := ⟨[(1, iV m), (2, pA b1), (4, iV 0), (5, iV 0), (6, iV 2)], [(b1, aO #[iV p.ll, iV p.lh, iV p.ul, iV p.uh, .slice p.ea p.es.length p.ec] 26)]⟩) (acc := [(.bool true, .bool true), (.bool true, .bool true)]) (by kernel_rfl) (by kernel_rfl) ⟨rfl, rfl, trivial⟩ ?_
      refine run_end (fn := f19) rfl (Nat.le_refl _) (by kernel_rfl) [] [iV 0, iV 0, iV 2] (e := []) (by kernel_rfl) trivial (fun w1 k1 h1 => ?_)
      unfold belowR
      rw [hd2, hd1]
      exact ⟨rfl, k1.keeps (fun _ h => h)⟩
  | true =>
    cases hd2 : p.n.ok with
    | false =>
      refine drawW 5 [{ val := fun _ => .agg #[iV p.ll, iV p.lh, iV p.ul, iV p.uh, .slice p.ea p.es.length p.ec], slots := [2], reads := [0] },
              { val := fun _ => iV m, slots := [1] },
              { val := fun _ => .bool true, slots := [13] },
              { val := fun _ => iV 1, slots := [12, 14] },
              { val := fun _ => iV 1, slots := [15] }] [[], [], [1], [0, 1, 2], [0, 1, 2, 3]] (by kernel_rfl) (by kernel_rfl) (by kernel_rfl) (by kernel_rfl) [1, 2, 4, 5, 6, 7] [0] (by kernel_rfl)
              ⟨⟨⟨⟨⟨trivial,
              tri_quietW (fun β => []) [0] [0] (fun β => [(pA b1, pA b1)]) (by kernel_rfl) (fun β extra => by kernel_rfl) (by kernel_rfl) (fun β => ⟨rfl, trivial⟩)⟩,
              tri_quietW (fun β => []) [] [] (fun β => []) (by kernel_rfl) (fun β extra => by kernel_rfl) (by kernel_rfl) (fun β => trivial)⟩,
              tri_callVW (fun β => .bool true) (fun β => by kernel_rfl) 59 (fun β => #[iV m]) (by kernel_rfl) (fun β extra => by kernel_rfl) (fun β => by kernel_rfl) (fun β w1 k1 h1 => (by have h := rlimit_any m w1; rw [hd1] at h; exact h))⟩,
              tri_callVW (fun β => iV 1) (fun β => by kernel_rfl) 46 (fun β => #[.agg #[iV p.ll, iV p.lh, iV p.ul, iV p.uh, .slice p.ea p.es.length p.ec], iV 0, .bool true]) (by kernel_rfl) (fun β extra => by kernel_rfl) (fun β => by kernel_rfl) (fun β w1 k1 h1 => (by have h := check_any p 0 true w1 (hp.keep (k1.keeps (fun _ h => h))); rw [show chkR p 0 true = 1 from by unfold chkR; rw [hd2]; rfl] at h; exact h))⟩,
              tri_quietW (fun β => []) [] [] (fun β => []) (by kernel_rfl) (fun β extra => by kernel_rfl) (by kernel_rfl) (fun β => trivial)⟩
              (fun β => ⟨[(1, iV m), (2, pA b1), (4, iV 0), (5, iV 0), (6, iV 0), (7, iV 1)], [(b1, aO #[iV p.ll, iV p.lh, iV p.ul, iV p.uh, .slice p.ea p.es.length p.ec] 26)]⟩) (fun β => by kernel_rfl) (fun β2 => ?_)
      refine run_auto [(17, .bool true)] 14 [true] [] [1, 2, 4, 5, 6] [0] (st' := ⟨[(1, iV m), (2, pA b1), (4, iV 0), (5, iV 0), (6, iV 1)], [(b1, aO #[iV p.ll, iV p.lh, iV p.ul, iV p.uh, .slice p.ea p.es.length p.ec] 26)]⟩) (acc := [(.bool true, .bool true), (.bool true, .bool true)]) (by kernel_rfl) (by kernel_rfl) ⟨rfl, rfl, trivial⟩ ?_
      refine run_end (fn := f19) rfl (Nat.le_refl _) (by kernel_rfl) [] [iV 0, iV 0, iV 1] (e := []) (by kernel_rfl) trivial (fun w1 k1 h1 => ?_)
      unfold belowR
      rw [hd2, hd1]
      exact ⟨rfl, k1.keeps (fun _ h => h)⟩
    | true =>
      have hF := Wn.fine hd2
      have hn8 : p.es.length ≤ 8 := hF.n8
      have hal := all_lt hF
      have hl0 : 0 ≤ p.ll ∧ p.ll ≤ p.lh ∧ p.lh ≤ 300 := hF.l
      cases hd3 : p.n.can with
      | false =>
        refine drawW 5 [{ val := fun _ => .agg #[iV p.ll, iV p.lh, iV p.ul, iV p.uh, .slice p.ea p.es.length p.ec], slots := [2], reads := [0] },
                  { val := fun _ => iV m, slots := [1] },
                  { val := fun _ => .bool true, slots := [13] },
                  { val := fun _ => iV 10, slots := [12, 14] },
                  { val := fun _ => iV 10, slots := [15] }] [[], [], [1], [0, 1, 2], [0, 1, 2, 3]] (by kernel_rfl) (by kernel_rfl) (by kernel_rfl) (by kernel_rfl) [1, 2, 4, 5, 6, 7] [0] (by kernel_rfl)
                  ⟨⟨⟨⟨⟨trivial,
                  tri_quietW (fun β => []) [0] [0] (fun β => [(pA b1, pA b1)]) (by kernel_rfl) (fun β extra => by kernel_rfl) (by kernel_rfl) (fun β => ⟨rfl, trivial⟩)⟩,
                  tri_quietW (fun β => []) [] [] (fun β => []) (by kernel_rfl) (fun β extra => by kernel_rfl) (by kernel_rfl) (fun β => trivial)⟩,
                  tri_callVW (fun β => .bool true) (fun β => by kernel_rfl) 59 (fun β => #[iV m]) (by kernel_rfl) (fun β extra => by kernel_rfl) (fun β => by kernel_rfl) (fun β w1 k1 h1 => (by have h := rlimit_any m w1; rw [hd1] at h; exact h))⟩,
                  tri_callVW (fun β => iV 10) (fun β => by kernel_rfl) 46 (fun β => #[.agg #[iV p.ll, iV p.lh, iV p.ul, iV p.uh, .slice p.ea p.es.length p.ec], iV 0, .bool true]) (by kernel_rfl) (fun β extra => by kernel_rfl) (fun β => by kernel_rfl) (fun β w1 k1 h1 => (by have h := check_any p 0 true w1 (hp.keep (k1.keeps (fun _ h => h))); rw [show chkR p 0 true = 10 from by unfold chkR; rw [hd2, hd3]; rfl] at h; exact h))⟩,
                  tri_quietW (fun β => []) [] [] (fun β => []) (by kernel_rfl) (fun β extra => by kernel_rfl) (by kernel_rfl) (fun β => trivial)⟩
                  (fun β => ⟨[(1, iV m), (2, pA b1), (4, iV 0), (5, iV 0), (6, iV 0), (7, iV 10)], [(b1, aO #[iV p.ll, iV p.lh, iV p.ul, iV p.uh, .slice p.ea p.es.length p.ec] 26)]⟩) (fun β => by kernel_rfl) (fun β2 => ?_)
        refine run_auto [(17, .bool true)] 14 [true] [] [1, 2, 4, 5, 6] [0] (st' := ⟨[(1, iV m), (2, pA b1), (4, iV 0), (5, iV 0), (6, iV 10)], [(b1, aO #[iV p.ll, iV p.lh, iV p.ul, iV p.uh, .slice p.ea p.es.length p.ec] 26)]⟩) (acc := [(.bool true, .bool true), (.bool true, .bool true)]) (by kernel_rfl) (by kernel_rfl) ⟨rfl, rfl, trivial⟩ ?_
        refine run_end (fn := f19) rfl (Nat.le_refl _) (by kernel_rfl) [] [iV 0, iV 0, iV 10] (e := []) (by kernel_rfl) trivial (fun w1 k1 h1 => ?_)
        unfold belowR
        rw [hd2, hd1, hd3]
        exact ⟨rfl, k1.keeps (fun _ h => h)⟩
      | true =>
        refine drawW 5 [{ val := fun _ => .agg #[iV p.ll, iV p.lh, iV p.ul, iV p.uh, .slice p.ea p.es.length p.ec], slots := [2], reads := [0] },
                  { val := fun _ => iV m, slots := [1] },
                  { val := fun _ => .bool true, slots := [13] },
                  { val := fun _ => iV 0, slots := [12, 14] },
                  { val := fun _ => iV 0, slots := [15] }] [[], [], [1], [0, 1, 2], [0, 1, 2, 3]] (by kernel_rfl) (by kernel_rfl) (by kernel_rfl) (by kernel_rfl) [1, 2, 4, 5, 6, 7] [0] (by kernel_rfl)
                  ⟨⟨⟨⟨⟨trivial,
                  tri_quietW (fun β => []) [0] [0] (fun β => [(pA b1, pA b1)]) (by kernel_rfl) (fun β extra => by kernel_rfl) (by kernel_rfl) (fun β => ⟨rfl, trivial⟩)⟩,
                  tri_quietW (fun β => []) [] [] (fun β => []) (by kernel_rfl) (fun β extra => by kernel_rfl) (by kernel_rfl) (fun β => trivial)⟩,
                  tri_callVW (fun β => .bool true) (fun β => by kernel_rfl) 59 (fun β => #[iV m]) (by kernel_rfl) (fun β extra => by kernel_rfl) (fun β => by kernel_rfl) (fun β w1 k1 h1 => (by have h := rlimit_any m w1; rw [hd1] at h; exact h))⟩,
                  tri_callVW (fun β => iV 0) (fun β => by kernel_rfl) 46 (fun β => #[.agg #[iV p.ll, iV p.lh, iV p.ul, iV p.uh, .slice p.ea p.es.length p.ec], iV 0, .bool true]) (by kernel_rfl) (fun β extra => by kernel_rfl) (fun β => by kernel_rfl) (fun β w1 k1 h1 => (by have h := check_any p 0 true w1 (hp.keep (k1.keeps (fun _ h => h))); rw [show chkR p 0 true = 0 from by unfold chkR; rw [hd2, hd3]; rfl] at h; exact h))⟩,
                  tri_quietW (fun β => []) [] [] (fun β => []) (by kernel_rfl) (fun β extra => by kernel_rfl) (by kernel_rfl) (fun β => trivial)⟩
                  (fun β => ⟨[(1, iV m), (2, pA b1), (4, iV 0), (5, iV 0), (6, iV 0), (7, iV 0)], [(b1, aO #[iV p.ll, iV p.lh, iV p.ul, iV p.uh, .slice p.ea p.es.length p.ec] 26)]⟩) (fun β => by kernel_rfl) (fun β2 => ?_)
        refine run_auto [(17, .bool false)] 19 [false] [] [1, 2, 4, 5, 6, 8, 9, 10] [0] (st' := ⟨[(1, iV m), (2, pA b1), (4, iV 0), (5, iV 0), (6, iV 0), (8, iV 0), (9, iV 0), (10, iV 0)], [(b1, aO #[iV p.ll, iV p.lh, iV p.ul, iV p.uh, .slice p.ea p.es.length p.ec] 26)]⟩) (acc := [(.bool false, .bool false), (.bool false, .bool false)]) (by kernel_rfl) (by kernel_rfl) ⟨rfl, rfl, trivial⟩ ?_
        refine run_auto [] 0 [] [] [1, 2, 4, 5, 6, 8, 9, 10] [0] (st' := ⟨[(1, iV m), (2, pA b1), (4, iV 0), (5, iV 0), (6, iV 0), (8, iV 0), (9, iV 0), (10, iV 0)], [(b1, aO #[iV p.ll, iV p.lh, iV p.ul, iV p.uh, .slice p.ea p.es.length p.ec] 26)]⟩) (acc := []) (by kernel_rfl) (by kernel_rfl) trivial ?_
        refine run_loop (S := fun (i : Nat) => ⟨[(1, iV m), (2, pA b1), (4, iV 0), (5, iV 0), (6, iV 0), (8, iV ((belS p.n m i : Nat) : Int)), (9, iV ((belP p.n m i : Nat) : Int)), (10, iV (i : Int))], [(b1, aO #[iV p.ll, iV p.lh, iV p.ul, iV p.uh, .slice p.ea p.es.length p.ec] 26)]⟩) (fun i => i ≤ p.es.length) (fun i => p.es.length - i) (0) (by kernel_rfl) (Nat.zero_le _) (by simp [belS, belP, bitsP]) (fun i hI0 J0 hJ0 => ?_)
        have hbl := bel_lt (w := p.n) m (n := i) (by omega)
        have hpw := pow_le8 (n := i) (by omega)
        cases hd4 : (decide ((i : Int) < (p.es.length : Int))) with
        | false =>
          have hp4 := of_decide_eq_false hd4
          refine run_auto [(23, .bool false)] 19 [false] [0] [4, 5, 6] [] (st' := ⟨[(4, iV ((belS p.n m i : Nat) : Int)), (5, iV ((belP p.n m i : Nat) : Int)), (6, iV 0)], []⟩) (acc := [(.bool false, .bool false), (.bool (decide ((i : Int) < (p.es.length : Int))), .bool false), (pA b1, pA b1)]) (by kernel_rfl) (by kernel_rfl) ⟨rfl, (bo hd4), rfl, trivial⟩ ?_
          refine run_end (fn := f19) rfl (Nat.le_refl _) (by kernel_rfl) [] [iV ((belS p.n m i : Nat) : Int), iV ((belP p.n m i : Nat) : Int), iV 0] (e := []) (by kernel_rfl) trivial (fun w1 k1 h1 => ?_)
          unfold belowR
          rw [hd2, hd1, hd3]
          rw [show p.es.length = i by omega]
          exact ⟨rfl, k1.keeps (fun _ h => h)⟩
        | true =>
          have hp4 := of_decide_eq_true hd4
          refine run_auto [(23, .bool true), (28, iV ((i + 1 : Nat) : Int))] 18 [true] [0, 0] [1, 2, 4, 5, 6, 8, 9, 10, 26, 28] [0] (st' := ⟨[(1, iV m), (2, pA b1), (4, iV 0), (5, iV 0), (6, iV 0), (8, iV ((belS p.n m i : Nat) : Int)), (9, iV ((belP p.n m i : Nat) : Int)), (10, iV (i : Int)), (26, .agg #[iV p.ll, iV p.lh, iV p.ul, iV p.uh, .slice p.ea p.es.length p.ec]), (28, iV ((i + 1 : Nat) : Int))], [(b1, aO #[iV p.ll, iV p.lh, iV p.ul, iV p.uh, .slice p.ea p.es.length p.ec] 26)]⟩) (acc := [(iV (IntKind.i64.wrap ((i : Int) + 1)), iV ((i + 1 : Nat) : Int)), (pA b1, pA b1), (.bool true, .bool true), (.bool (decide ((i : Int) < (p.es.length : Int))), .bool true), (pA b1, pA b1)]) (by kernel_rfl) (by kernel_rfl) ⟨(wr (by omega) (by omega)), rfl, rfl, (bo hd4), rfl, trivial⟩ ?_
          refine run_ret1 48 #[.agg #[iV p.ll, iV p.lh, iV p.ul, iV p.uh, .slice p.ea p.es.length p.ec], iV ((i + 1 : Nat) : Int)] (some 29) (.agg #[iV ((mC p.n (i + 1 : Nat)).1), iV ((mC p.n (i + 1 : Nat)).2)]) (by kernel_rfl) (fun w1 k1 h1 => rafter_any p (i + 1 : Nat) w1 (hp.keep (k1.keeps (fun _ h => h))) hF hd3 (by omega)) ?_
          refine run_new (aO #[iV 0, iV 0] 23) (fun b3 => pA b3) (some 11) (fun _ => by kernel_rfl) (fun b3 hb3 => ?_)
          cases hd5 : (decide (((mC p.n (i + 1 : Nat)).2) < m)) with
          | false =>
            have hp5 := of_decide_eq_false hd5
            cases hd6 : (decide (((mC p.n (i + 1 : Nat)).1) < m)) with
            | false =>
              have hp6 := of_decide_eq_false hd6
              refine run_auto [(33, .bool false), (41, .bool false), (25, iV ((i + 1 : Nat) : Int))] 27 [false, false] [0, 0, 0] [1, 2, 4, 5, 6, 8, 9, 10] [1] (st' := ⟨[(1, iV m), (2, pA b1), (4, iV 0), (5, iV 0), (6, iV 0), (8, iV ((belS p.n m i : Nat) : Int)), (9, iV ((belP p.n m i : Nat) : Int)), (10, iV ((i + 1 : Nat) : Int))], [(b1, aO #[iV p.ll, iV p.lh, iV p.ul, iV p.uh, .slice p.ea p.es.length p.ec] 26)]⟩) (acc := [(iV (IntKind.i64.wrap ((i : Int) + 1)), iV ((i + 1 : Nat) : Int)), (.bool false, .bool false), (.bool (decide (((mC p.n (i + 1 : Nat)).1) < m)), .bool false), (pA b3, pA b3), (.bool false, .bool false), (.bool (decide (((mC p.n (i + 1 : Nat)).2) < m)), .bool false), (pA b3, pA b3), (pA b3, pA b3)]) (by kernel_rfl) (by kernel_rfl) ⟨(wr (by omega) (by omega)), rfl, (bo hd6), rfl, rfl, (bo hd5), rfl, rfl, trivial⟩ ?_
              have hj := hJ0 (i + 1) (by omega) (by omega)
              rw [show ((belS p.n m (i + 1) : Nat) : Int) = ((belS p.n m i : Nat) : Int) from by unfold belS; rw [bitsP_add, hd5]; rfl] at hj
              rw [show ((belP p.n m (i + 1) : Nat) : Int) = ((belP p.n m i : Nat) : Int) from by unfold belP; rw [bitsP_add, hd6]; rfl] at hj
              exact run_round (by kernel_rfl) hj
            | true =>
              have hp6 := of_decide_eq_true hd6
              refine run_auto [(33, .bool false), (41, .bool true)] 23 [false, true] [0, 0, 0] [1, 2, 4, 5, 6, 8, 9, 10, 42, 43] [1] (st' := ⟨[(1, iV m), (2, pA b1), (4, iV 0), (5, iV 0), (6, iV 0), (8, iV ((belS p.n m i : Nat) : Int)), (9, iV ((belP p.n m i : Nat) : Int)), (10, iV (i : Int)), (42, iV ((belP p.n m i : Nat) : Int)), (43, iV (i : Int))], [(b1, aO #[iV p.ll, iV p.lh, iV p.ul, iV p.uh, .slice p.ea p.es.length p.ec] 26)]⟩) (acc := [(.bool true, .bool true), (.bool (decide (((mC p.n (i + 1 : Nat)).1) < m)), .bool true), (pA b3, pA b3), (.bool false, .bool false), (.bool (decide (((mC p.n (i + 1 : Nat)).2) < m)), .bool false), (pA b3, pA b3), (pA b3, pA b3)]) (by kernel_rfl) (by kernel_rfl) ⟨rfl, (bo hd6), rfl, rfl, (bo hd5), rfl, rfl, trivial⟩ ?_
              refine run_ret1 60 #[iV (i : Int)] (some 44) (iV ((2 ^ i : Nat) : Int)) (by kernel_rfl) (fun w1 k1 h1 => power_any i (by omega) w1) ?_
              refine run_auto [(45, iV (((belP p.n m i : Nat) : Int) + ((2 ^ i : Nat) : Int))), (25, iV ((i + 1 : Nat) : Int))] 9 [] [] [1, 2, 4, 5, 6, 8, 9, 10] [0] (st' := ⟨[(1, iV m), (2, pA b1), (4, iV 0), (5, iV 0), (6, iV 0), (8, iV ((belS p.n m i : Nat) : Int)), (9, iV (((belP p.n m i : Nat) : Int) + ((2 ^ i : Nat) : Int))), (10, iV ((i + 1 : Nat) : Int))], [(b1, aO #[iV p.ll, iV p.lh, iV p.ul, iV p.uh, .slice p.ea p.es.length p.ec] 26)]⟩) (acc := [(iV (IntKind.i64.wrap ((i : Int) + 1)), iV ((i + 1 : Nat) : Int)), (iV (IntKind.i64.wrap (((belP p.n m i : Nat) : Int) + ((2 ^ i : Nat) : Int))), iV (((belP p.n m i : Nat) : Int) + ((2 ^ i : Nat) : Int)))]) (by kernel_rfl) (by kernel_rfl) ⟨(wr (by omega) (by omega)), (wr (by omega) (by omega)), trivial⟩ ?_
              have hj := hJ0 (i + 1) (by omega) (by omega)
              rw [show ((belS p.n m (i + 1) : Nat) : Int) = ((belS p.n m i : Nat) : Int) from by unfold belS; rw [bitsP_add, hd5]; rfl] at hj
              rw [show ((belP p.n m (i + 1) : Nat) : Int) = ((belP p.n m i : Nat) : Int) + ((2 ^ i : Nat) : Int) from by unfold belP; rw [bitsP_add, hd6]; exact Int.natCast_add _ _] at hj
              exact run_round (by kernel_rfl) hj
          | true =>
            have hp5 := of_decide_eq_true hd5
            refine run_auto [(33, .bool true)] 14 [true] [0, 0] [1, 2, 4, 5, 6, 8, 9, 10, 11, 34, 35] [0, 1] (st' := ⟨[(1, iV m), (2, pA b1), (4, iV 0), (5, iV 0), (6, iV 0), (8, iV ((belS p.n m i : Nat) : Int)), (9, iV ((belP p.n m i : Nat) : Int)), (10, iV (i : Int)), (11, pA b3), (34, iV ((belS p.n m i : Nat) : Int)), (35, iV (i : Int))], [(b3, aO #[iV ((mC p.n (i + 1 : Nat)).1), iV ((mC p.n (i + 1 : Nat)).2)] 23), (b1, aO #[iV p.ll, iV p.lh, iV p.ul, iV p.uh, .slice p.ea p.es.length p.ec] 26)]⟩) (acc := [(.bool true, .bool true), (.bool (decide (((mC p.n (i + 1 : Nat)).2) < m)), .bool true), (pA b3, pA b3), (pA b3, pA b3)]) (by kernel_rfl) (by kernel_rfl) ⟨rfl, (bo hd5), rfl, rfl, trivial⟩ ?_
            refine run_ret1 60 #[iV (i : Int)] (some 36) (iV ((2 ^ i : Nat) : Int)) (by kernel_rfl) (fun w1 k1 h1 => power_any i (by omega) w1) ?_
            cases hd6 : (decide (((mC p.n (i + 1 : Nat)).1) < m)) with
            | false =>
              have hp6 := of_decide_eq_false hd6
              refine run_auto [(37, iV (((belS p.n m i : Nat) : Int) + ((2 ^ i : Nat) : Int))), (41, .bool false), (25, iV ((i + 1 : Nat) : Int))] 18 [false] [0] [1, 2, 4, 5, 6, 8, 9, 10] [1] (st' := ⟨[(1, iV m), (2, pA b1), (4, iV 0), (5, iV 0), (6, iV 0), (8, iV (((belS p.n m i : Nat) : Int) + ((2 ^ i : Nat) : Int))), (9, iV ((belP p.n m i : Nat) : Int)), (10, iV ((i + 1 : Nat) : Int))], [(b1, aO #[iV p.ll, iV p.lh, iV p.ul, iV p.uh, .slice p.ea p.es.length p.ec] 26)]⟩) (acc := [(iV (IntKind.i64.wrap ((i : Int) + 1)), iV ((i + 1 : Nat) : Int)), (.bool false, .bool false), (.bool (decide (((mC p.n (i + 1 : Nat)).1) < m)), .bool false), (pA b3, pA b3), (iV (IntKind.i64.wrap (((belS p.n m i : Nat) : Int) + ((2 ^ i : Nat) : Int))), iV (((belS p.n m i : Nat) : Int) + ((2 ^ i : Nat) : Int)))]) (by kernel_rfl) (by kernel_rfl) ⟨(wr (by omega) (by omega)), rfl, (bo hd6), rfl, (wr (by omega) (by omega)), trivial⟩ ?_
              have hj := hJ0 (i + 1) (by omega) (by omega)
              rw [show ((belS p.n m (i + 1) : Nat) : Int) = ((belS p.n m i : Nat) : Int) + ((2 ^ i : Nat) : Int) from by unfold belS; rw [bitsP_add, hd5]; exact Int.natCast_add _ _] at hj
              rw [show ((belP p.n m (i + 1) : Nat) : Int) = ((belP p.n m i : Nat) : Int) from by unfold belP; rw [bitsP_add, hd6]; rfl] at hj
              exact run_round (by kernel_rfl) hj
            | true =>
              have hp6 := of_decide_eq_true hd6
              refine run_auto [(37, iV (((belS p.n m i : Nat) : Int) + ((2 ^ i : Nat) : Int))), (41, .bool true)] 14 [true] [0] [1, 2, 4, 5, 6, 8, 9, 10, 42, 43] [1] (st' := ⟨[(1, iV m), (2, pA b1), (4, iV 0), (5, iV 0), (6, iV 0), (8, iV (((belS p.n m i : Nat) : Int) + ((2 ^ i : Nat) : Int))), (9, iV ((belP p.n m i : Nat) : Int)), (10, iV (i : Int)), (42, iV ((belP p.n m i : Nat) : Int)), (43, iV (i : Int))], [(b1, aO #[iV p.ll, iV p.lh, iV p.ul, iV p.uh, .slice p.ea p.es.length p.ec] 26)]⟩) (acc := [(.bool true, .bool true), (.bool (decide (((mC p.n (i + 1 : Nat)).1) < m)), .bool true), (pA b3, pA b3), (iV (IntKind.i64.wrap (((belS p.n m i : Nat) : Int) + ((2 ^ i : Nat) : Int))), iV (((belS p.n m i : Nat) : Int) + ((2 ^ i : Nat) : Int)))]) (by kernel_rfl) (by kernel_rfl) ⟨rfl, (bo hd6), rfl, (wr (by omega) (by omega)), trivial⟩ ?_
              refine run_ret1 60 #[iV (i : Int)] (some 44) (iV ((2 ^ i : Nat) : Int)) (by kernel_rfl) (fun w1 k1 h1 => power_any i (by omega) w1) ?_
              refine run_auto [(45, iV (((belP p.n m i : Nat) : Int) + ((2 ^ i : Nat) : Int))), (25, iV ((i + 1 : Nat) : Int))] 9 [] [] [1, 2, 4, 5, 6, 8, 9, 10] [0] (st' := ⟨[(1, iV m), (2, pA b1), (4, iV 0), (5, iV 0), (6, iV 0), (8, iV (((belS p.n m i : Nat) : Int) + ((2 ^ i : Nat) : Int))), (9, iV (((belP p.n m i : Nat) : Int) + ((2 ^ i : Nat) : Int))), (10, iV ((i + 1 : Nat) : Int))], [(b1, aO #[iV p.ll, iV p.lh, iV p.ul, iV p.uh, .slice p.ea p.es.length p.ec] 26)]⟩) (acc := [(iV (IntKind.i64.wrap ((i : Int) + 1)), iV ((i + 1 : Nat) : Int)), (iV (IntKind.i64.wrap (((belP p.n m i : Nat) : Int) + ((2 ^ i : Nat) : Int))), iV (((belP p.n m i : Nat) : Int) + ((2 ^ i : Nat) : Int)))]) (by kernel_rfl) (by kernel_rfl) ⟨(wr (by omega) (by omega)), (wr (by omega) (by omega)), trivial⟩ ?_
              have hj := hJ0 (i + 1) (by omega) (by omega)
              rw [show ((belS p.n m (i + 1) : Nat) : Int) = ((belS p.n m i : Nat) : Int) + ((2 ^ i : Nat) : Int) from by unfold belS; rw [bitsP_add, hd5]; exact Int.natCast_add _ _] at hj
              rw [show ((belP p.n m (i + 1) : Nat) : Int) = ((belP p.n m i : Nat) : Int) + ((2 ^ i : Nat) : Int) from by unfold belP; rw [bitsP_add, hd6]; exact Int.natCast_add _ _] at hj
              exact run_round (by kernel_rfl) hj

end Go.Proofs.YtdjnkdelmmpleaaGreat

namespace Go.Proofs.YtdjnkdelmmpleaaGreat
open Go.RowKit Go.Proofs.Tryz


theorem sp_ext {A B : Sp} (h : ∀ y, inP y A ↔ inP y B) : possS A = possS B ∧ (possS A = true → A = B) := by
  have hp : possS A = possS B := by
    rw [Bool.eq_iff_iff, poss_iff, poss_iff]
    exact exists_congr h
  refine ⟨hp, fun ha => ?_⟩
  have hb : possS B = true := hp ▸ ha
  have ha := of_decide_eq_true ha
  have hb := of_decide_eq_true hb
  have a1 := (h A.1).1 ⟨Int.le_refl _, ha⟩
  have a2 := (h A.2).1 ⟨ha, Int.le_refl _⟩
  have b1 := (h B.1).2 ⟨Int.le_refl _, hb⟩
  have b2 := (h B.2).2 ⟨hb, Int.le_refl _⟩
  unfold inP at a1 a2 b1 b2
  exact Prod.ext (by omega) (by omega)
theorem lost_rn {p : Wb} (hF : p.n.Fine) (a : Int) : possS (rnF (p.ul, p.uh) p.es p.all p.es.length 0 (a, a)) = possS (p.n.lost1 a) ∧ (possS (rnF (p.ul, p.uh) p.es p.all p.es.length 0 (a, a)) = true → rnF (p.ul, p.uh) p.es p.all p.es.length 0 (a, a) = p.n.lost1 a) := by
  refine sp_ext fun y => ?_
  rw [rn_in hF p.es.length 0 (a, a) (by omega), hF.ok_.lost_in, List.drop_zero, List.take_length]
  constructor
  · rintro ⟨x, hx, hr⟩
    have e : x = a := Int.le_antisymm hx.2 hx.1
    exact e ▸ hr
  · exact fun hr => ⟨a, ⟨Int.le_refl _, Int.le_refl _⟩, hr⟩
/-- The least span of several. -/
def jn : List Sp → Sp
  | [] => (0, 0)
  | x :: l => l.foldl joiS x
theorem jn_is (x : Sp) (l : List Sp) : joinK (x :: l) ((x :: l).length - 1) = jn (x :: l) := by
  unfold joinK
  rw [List.drop_succ_cons, List.drop_zero, List.take_of_length_le (by simp)]
  rfl
theorem jn_add (x : Sp) (l : List Sp) (y : Sp) : jn (x :: l ++ [y]) = joiS (jn (x :: l)) y := by
  show (l ++ [y]).foldl joiS x = _
  rw [List.foldl_append]
  rfl
def lsN (p : Wb) (n : Int) : Sp := jn (lostK p.n (n - p.ll).toNat)
def smN (p : Wb) (n : Int) : Bool := !(lostK p.n (n - p.ll).toNat).isEmpty
theorem ls_zero (p : Wb) : lsN p p.ll = (0, 0) ∧ smN p p.ll = false := by
  unfold lsN smN
  rw [Int.sub_self]
  exact ⟨rfl, rfl⟩
theorem ls_no {p : Wb} {n : Int} (hn : p.ll ≤ n) (h : possS (p.n.lost1 n) = false) : lsN p (n + 1) = lsN p n ∧ smN p (n + 1) = smN p n := by
  unfold lsN smN
  rw [show (n + 1 - p.ll).toNat = (n - p.ll).toNat + 1 by omega, lostK_no (a := n) (by show p.ll + _ = n; omega) h]
  exact ⟨rfl, rfl⟩
theorem ls_yes {p : Wb} {n : Int} (hn : p.ll ≤ n) (h : possS (p.n.lost1 n) = true) : smN p (n + 1) = true ∧ (smN p n = false → lsN p (n + 1) = (n - (p.n.lost1 n).2, n - (p.n.lost1 n).1)) ∧ (smN p n = true → lsN p (n + 1) = (min (lsN p n).1 (n - (p.n.lost1 n).2), max (lsN p n).2 (n - (p.n.lost1 n).1))) := by
  unfold lsN smN
  rw [show (n + 1 - p.ll).toNat = (n - p.ll).toNat + 1 by omega, lostK_yes (a := n) (by show p.ll + _ = n; omega) h]
  cases lostK p.n (n - p.ll).toNat with
  | nil => exact ⟨rfl, fun _ => rfl, fun h => (by cases h)⟩
  | cons x l => exact ⟨rfl, fun h => (by cases h), fun _ => jn_add x l _⟩
theorem ls_all {p : Wb} (hF : p.n.Fine) (hcan : p.n.can = true) {n : Int} (h : n = p.lh + 1) : lsN p n = p.n.lost := by
  subst h
  have h1 := lostK_some hF hcan
  unfold lsN Wn.lost
  rw [show (p.lh + 1 - p.ll).toNat = p.n.nl from by show _ = (p.lh - p.ll + 1).toNat; congr 1; omega]
  cases hl : lostK p.n p.n.nl with
  | nil => exact absurd hl h1
  | cons x l => exact (jn_is x l).symm
theorem rn_bd2 {p : Wb} (hF : p.n.Fine) {n : Int} (h1 : 0 ≤ n) (h2 : n ≤ 300) : bdS (rnF (p.ul, p.uh) p.es p.all p.es.length 0 (n, n)) 2000 := by
  have h := rn_bd hF p.all p.es.length 0 (n, n) 1000 (by omega) (by omega) (by unfold bdS; dsimp only; omega)
  have h8 : p.es.length ≤ 8 := hF.n8
  unfold bdS at h ⊢
  omega
set_option maxRecDepth 100000 in
theorem rLost_any (p : Wb) (w : World) (hp : p.In w) : Calls Tryz.prog 17 #[.agg #[.int .i64 p.ll, .int .i64 p.lh, .int .i64 p.ul, .int .i64 p.uh, .slice p.ea p.es.length p.ec]] w (Ret (.tuple #[.agg #[.int .i64 (spA (lostR p)).1, .int .i64 (spA (lostR p)).2], .int .i64 (erA (lostR p))]) w) := by
  refine calls_run (fn := f17) (c := (f17.body).getD .skip) [.agg #[.int .i64 p.ll, .int .i64 p.lh, .int .i64 p.ul, .int .i64 p.uh, .slice p.ea p.es.length p.ec]] func17 (by kernel_rfl) (fun _ => False) [] (fun _ h => by cases h) (List.Pairwise.nil) 65 (by kernel_rfl) (by simp) ?_
  refine run_auto [] 2 [] [] [0] [] (st' := ⟨[(0, .agg #[iV p.ll, iV p.lh, iV p.ul, iV p.uh, .slice p.ea p.es.length p.ec])], []⟩) (acc := []) (by kernel_rfl) (by kernel_rfl) trivial ?_
  refine run_new (aO #[iV p.ll, iV p.lh, iV p.ul, iV p.uh, .slice p.ea p.es.length p.ec] 26) (fun b1 => pA b1) (some 1) (fun _ => by kernel_rfl) (fun b1 hb1 => ?_)
  refine run_new (aO #[iV 0, iV 0] 23) (fun b2 => pA b2) (some 2) (fun _ => by kernel_rfl) (fun b2 hb2 => ?_)
  refine run_auto [] 5 [] [1] [1, 2, 3, 10] [0, 1] (st' := ⟨[(1, pA b1), (2, pA b2), (3, iV 0), (10, .agg #[iV p.ll, iV p.lh, iV p.ul, iV p.uh, .slice p.ea p.es.length p.ec])], [(b2, aO #[iV 0, iV 0] 23), (b1, aO #[iV p.ll, iV p.lh, iV p.ul, iV p.uh, .slice p.ea p.es.length p.ec] 26)]⟩) (acc := [(pA b1, pA b1)]) (by kernel_rfl) (by kernel_rfl) ⟨rfl, trivial⟩ ?_
  cases hd1 : p.n.ok with
  | false =>
    refine run_ret1 46 #[.agg #[iV p.ll, iV p.lh, iV p.ul, iV p.uh, .slice p.ea p.es.length p.ec], iV 0, .bool true] (some 11) (iV 1) (by kernel_rfl) (fun w1 k1 h1 => (by have h := check_any p 0 true w1 (hp.keep (k1.keeps (fun _ h => h))); rw [show chkR p 0 true = 1 from by unfold chkR; rw [hd1]; rfl] at h; exact h)) ?_
    refine run_auto [(13, .bool true)] 16 [true] [0] [1, 2, 3] [0, 1] (st' := ⟨[(1, pA b1), (2, pA b2), (3, iV 1)], [(b2, aO #[iV 0, iV 0] 23), (b1, aO #[iV p.ll, iV p.lh, iV p.ul, iV p.uh, .slice p.ea p.es.length p.ec] 26)]⟩) (acc := [(pA b2, pA b2), (.bool true, .bool true), (.bool true, .bool true)]) (by kernel_rfl) (by kernel_rfl) ⟨rfl, rfl, rfl, trivial⟩ ?_
    refine run_end (fn := f17) rfl (Nat.le_refl _) (by kernel_rfl) [0] [.agg #[iV 0, iV 0], iV 1] (e := [(pA b2, pA b2)]) (by kernel_rfl) ⟨rfl, trivial⟩ (fun w1 k1 h1 => ?_)
    unfold lostR
    rw [hd1]
    exact ⟨rfl, k1.keeps (fun _ h => h)⟩
  | true =>
    have hF := Wn.fine hd1
    have hn8 : p.es.length ≤ 8 := hF.n8
    have hal := all_lt hF
    have hl0 : 0 ≤ p.ll ∧ p.ll ≤ p.lh ∧ p.lh ≤ 300 := hF.l
    cases hd2 : p.n.can with
    | false =>
      refine run_ret1 46 #[.agg #[iV p.ll, iV p.lh, iV p.ul, iV p.uh, .slice p.ea p.es.length p.ec], iV 0, .bool true] (some 11) (iV 10) (by kernel_rfl) (fun w1 k1 h1 => (by have h := check_any p 0 true w1 (hp.keep (k1.keeps (fun _ h => h))); rw [show chkR p 0 true = 10 from by unfold chkR; rw [hd1, hd2]; rfl] at h; exact h)) ?_
      refine run_auto [(13, .bool true)] 16 [true] [0] [1, 2, 3] [0, 1] (st' := ⟨[(1, pA b1), (2, pA b2), (3, iV 10)], [(b2, aO #[iV 0, iV 0] 23), (b1, aO #[iV p.ll, iV p.lh, iV p.ul, iV p.uh, .slice p.ea p.es.length p.ec] 26)]⟩) (acc := [(pA b2, pA b2), (.bool true, .bool true), (.bool true, .bool true)]) (by kernel_rfl) (by kernel_rfl) ⟨rfl, rfl, rfl, trivial⟩ ?_
      refine run_end (fn := f17) rfl (Nat.le_refl _) (by kernel_rfl) [0] [.agg #[iV 0, iV 0], iV 10] (e := [(pA b2, pA b2)]) (by kernel_rfl) ⟨rfl, trivial⟩ (fun w1 k1 h1 => ?_)
      unfold lostR
      rw [hd1, hd2]
      exact ⟨rfl, k1.keeps (fun _ h => h)⟩
    | true =>
      refine run_ret1 46 #[.agg #[iV p.ll, iV p.lh, iV p.ul, iV p.uh, .slice p.ea p.es.length p.ec], iV 0, .bool true] (some 11) (iV 0) (by kernel_rfl) (fun w1 k1 h1 => (by have h := check_any p 0 true w1 (hp.keep (k1.keeps (fun _ h => h))); rw [show chkR p 0 true = 0 from by unfold chkR; rw [hd1, hd2]; rfl] at h; exact h)) ?_
      refine run_auto [(13, .bool false)] 13 [false] [] [1, 2, 3, 16] [0, 1] (st' := ⟨[(1, pA b1), (2, pA b2), (3, iV 0), (16, .agg #[iV 0, iV 0])], [(b2, aO #[iV 0, iV 0] 23), (b1, aO #[iV p.ll, iV p.lh, iV p.ul, iV p.uh, .slice p.ea p.es.length p.ec] 26)]⟩) (acc := [(.bool false, .bool false), (.bool false, .bool false)]) (by kernel_rfl) (by kernel_rfl) ⟨rfl, rfl, trivial⟩ ?_
      refine run_new (aO #[iV 0, iV 0] 23) (fun b3 => pA b3) (some 5) (fun _ => by kernel_rfl) (fun b3 hb3 => ?_)
      refine run_auto [] 12 [] [0, 2] [1, 2, 3, 5, 6, 7] [0, 1, 2] (st' := ⟨[(1, pA b1), (2, pA b2), (3, iV 0), (5, pA b3), (6, .bool false), (7, iV p.ll)], [(b3, aO #[iV 0, iV 0] 23), (b2, aO #[iV 0, iV 0] 23), (b1, aO #[iV p.ll, iV p.lh, iV p.ul, iV p.uh, .slice p.ea p.es.length p.ec] 26)]⟩) (acc := [(pA b1, pA b1), (pA b3, pA b3)]) (by kernel_rfl) (by kernel_rfl) ⟨rfl, rfl, trivial⟩ ?_
      refine run_auto [] 0 [] [] [1, 2, 3, 5, 6, 7] [0, 1, 2] (st' := ⟨[(1, pA b1), (2, pA b2), (3, iV 0), (5, pA b3), (6, .bool false), (7, iV p.ll)], [(b3, aO #[iV 0, iV 0] 23), (b2, aO #[iV 0, iV 0] 23), (b1, aO #[iV p.ll, iV p.lh, iV p.ul, iV p.uh, .slice p.ea p.es.length p.ec] 26)]⟩) (acc := []) (by kernel_rfl) (by kernel_rfl) trivial ?_
      refine run_loop (S := fun (n : Int) => ⟨[(1, pA b1), (2, pA b2), (3, iV 0), (5, pA b3), (6, .bool (smN p n)), (7, iV n)], [(b3, aO #[iV (lsN p n).1, iV (lsN p n).2] 23), (b2, aO #[iV 0, iV 0] 23), (b1, aO #[iV p.ll, iV p.lh, iV p.ul, iV p.uh, .slice p.ea p.es.length p.ec] 26)]⟩) (fun n => p.ll ≤ n ∧ n ≤ p.lh + 1) (fun n => (p.lh + 1 - n).toNat) (p.ll) (by kernel_rfl) (⟨Int.le_refl _, by omega⟩) (by rw [(ls_zero p).1, (ls_zero p).2]) (fun n hI0 J0 hJ0 => ?_)
      obtain ⟨hn1, hn2⟩ := hI0
      obtain ⟨X, hX⟩ : ∃ X, rnF (p.ul, p.uh) p.es p.all p.es.length 0 (n, n) = X := ⟨_, rfl⟩
      have hxl := lost_rn hF n
      rw [hX] at hxl
      cases hd3 : (decide (n ≤ p.lh)) with
      | false =>
        have hp3 := of_decide_eq_false hd3
        refine run_auto [(24, .bool false)] 17 [false] [2, 0, 1] [2, 3] [1] (st' := ⟨[(2, pA b2), (3, iV 0)], [(b2, aO #[iV (lsN p n).1, iV (lsN p n).2] 23)]⟩) (acc := [(pA b2, pA b2), (pA b3, pA b3), (.bool false, .bool false), (.bool (decide (n ≤ p.lh)), .bool false), (pA b1, pA b1)]) (by kernel_rfl) (by kernel_rfl) ⟨rfl, rfl, rfl, (bo hd3), rfl, trivial⟩ ?_
        refine run_end (fn := f17) rfl (Nat.le_refl _) (by kernel_rfl) [0] [.agg #[iV (lsN p n).1, iV (lsN p n).2], iV 0] (e := [(pA b2, pA b2)]) (by kernel_rfl) ⟨rfl, trivial⟩ (fun w1 k1 h1 => ?_)
        unfold lostR
        rw [hd1, hd2]
        have hq := ls_all hF hd2 (n := n) (by omega)
        rw [hq]
        exact ⟨rfl, k1.keeps (fun _ h => h)⟩
      | true =>
        have hp3 := of_decide_eq_true hd3
        have hxb := rn_bd2 hF (n := n) (by omega) (by omega)
        rw [hX] at hxb
        unfold bdS at hxb
        refine run_auto [(24, .bool true)] 14 [true] [2] [1, 2, 3, 5, 6, 7] [0, 1, 2] (st' := ⟨[(1, pA b1), (2, pA b2), (3, iV 0), (5, pA b3), (6, .bool (smN p n)), (7, iV n)], [(b3, aO #[iV (lsN p n).1, iV (lsN p n).2] 23), (b2, aO #[iV 0, iV 0] 23), (b1, aO #[iV p.ll, iV p.lh, iV p.ul, iV p.uh, .slice p.ea p.es.length p.ec] 26)]⟩) (acc := [(.bool true, .bool true), (.bool (decide (n ≤ p.lh)), .bool true), (pA b1, pA b1)]) (by kernel_rfl) (by kernel_rfl) ⟨rfl, (bo hd3), rfl, trivial⟩ ?_
        refine drawW 12 [{ val := fun _ => .agg #[iV p.ll, iV p.lh, iV p.ul, iV p.uh, .slice p.ea p.es.length p.ec], slots := [1], reads := [2] },
                  { val := fun _ => iV n, slots := [7] },
                  { val := fun _ => iV n, slots := [7] },
                  { val := fun _ => .agg #[iV n, iV n], slots := [28, 29] },
                  { val := fun _ => .pointer (some ⟨b1, 4, none⟩), slots := [1] },
                  { val := fun _ => .slice p.ea p.es.length p.ec, slots := [31], reads := [2] },
                  { val := fun _ => iV (p.es.length : Int), slots := [32] },
                  { val := fun _ => .agg #[iV p.ll, iV p.lh, iV p.ul, iV p.uh, .slice p.ea p.es.length p.ec], slots := [1], reads := [2] },
                  { val := fun _ => iV (p.all : Int), slots := [34] },
                  { val := fun _ => .agg #[iV X.1, iV X.2], slots := [27, 30, 33, 35] },
                  { names := [13], val := fun l => .pointer (some ⟨(l.getD 0 0), 0, none⟩), upd := [(13, fun l => aO #[iV 0, iV 0] 23)], news := [13] },
                  { upd := [(13, fun l => aO #[iV X.1, iV X.2] 23)], slots := [8, 36], reads := [13] }] [[], [], [], [1, 2], [], [4], [4, 5], [], [7], [0, 1, 2, 3, 4, 5, 6, 7, 8], [], [0, 1, 2, 3, 4, 5, 6, 7, 8, 9, 10]] (by kernel_rfl) (by kernel_rfl) (by kernel_rfl) (by kernel_rfl) [1, 2, 3, 5, 6, 7, 8] [0, 1, 2, 13] (by kernel_rfl)
                  ⟨⟨⟨⟨⟨⟨⟨⟨⟨⟨⟨⟨trivial,
                  tri_quietW (fun β => []) [0] [0] (fun β => [(pA b1, pA b1)]) (by kernel_rfl) (fun β extra => by kernel_rfl) (by kernel_rfl) (fun β => ⟨rfl, trivial⟩)⟩,
                  tri_quietW (fun β => []) [] [] (fun β => []) (by kernel_rfl) (fun β extra => by kernel_rfl) (by kernel_rfl) (fun β => trivial)⟩,
                  tri_quietW (fun β => []) [] [] (fun β => []) (by kernel_rfl) (fun β extra => by kernel_rfl) (by kernel_rfl) (fun β => trivial)⟩,
                  tri_quietW (fun β => []) [] [] (fun β => []) (by kernel_rfl) (fun β extra => by kernel_rfl) (by kernel_rfl) (fun β => trivial)⟩,
                  tri_quietW (fun β => []) [] [] (fun β => []) (by kernel_rfl) (fun β extra => by kernel_rfl) (by kernel_rfl) (fun β => trivial)⟩,
                  tri_quietW (fun β => []) [0] [0] (fun β => [(pA b1, pA b1)]) (by kernel_rfl) (fun β extra => by kernel_rfl) (by kernel_rfl) (fun β => ⟨rfl, trivial⟩)⟩,
                  tri_quietW (fun β => []) [] [] (fun β => []) (by kernel_rfl) (fun β extra => by kernel_rfl) (by kernel_rfl) (fun β => trivial)⟩,
                  tri_quietW (fun β => []) [0] [0] (fun β => [(pA b1, pA b1)]) (by kernel_rfl) (fun β extra => by kernel_rfl) (by kernel_rfl) (fun β => ⟨rfl, trivial⟩)⟩,
                  tri_callVW (fun β => iV (p.all : Int)) (fun β => by kernel_rfl) 52 (fun β => #[.agg #[iV p.ll, iV p.lh, iV p.ul, iV p.uh, .slice p.ea p.es.length p.ec]]) (by kernel_rfl) (fun β extra => by kernel_rfl) (fun β => by kernel_rfl) (fun β w1 k1 h1 => every_any p w1 hn8)⟩,
                  tri_callVW (fun β => .agg #[iV X.1, iV X.2]) (fun β => by kernel_rfl) 51 (fun β => #[.agg #[iV p.ll, iV p.lh, iV p.ul, iV p.uh, .slice p.ea p.es.length p.ec], .agg #[iV n, iV n], iV 0, iV (p.es.length : Int), iV (p.all : Int)]) (by kernel_rfl) (fun β extra => by kernel_rfl) (fun β => by kernel_rfl) (fun β w1 k1 h1 => run_any p (n, n) X 0 p.es.length p.all w1 (hp.keep (k1.keeps (fun _ h => h))) hF (by omega) (by omega) (by omega) (by unfold bdS; dsimp only; omega) hX)⟩,
                  tri_newW 13 (fun β => aO #[iV 0, iV 0] 23) (fun β b => pA b) [0] (by kernel_rfl) (fun β extra b => by kernel_rfl) (by kernel_rfl) (fun β b => by kernel_rfl) (fun β b => by kernel_rfl) (fun β b => by kernel_rfl)⟩,
                  tri_quietW (fun β => []) [0] [0] (fun β => [(.pointer (some ⟨(β 13), 0, none⟩), .pointer (some ⟨(β 13), 0, none⟩))]) (by kernel_rfl) (fun β extra => by kernel_rfl) (by kernel_rfl) (fun β => ⟨rfl, trivial⟩)⟩
                  (fun β => ⟨[(1, pA b1), (2, pA b2), (3, iV 0), (5, pA b3), (6, .bool (smN p n)), (7, iV n), (8, .pointer (some ⟨(β 13), 0, none⟩))], [(b3, aO #[iV (lsN p n).1, iV (lsN p n).2] 23), (b2, aO #[iV 0, iV 0] 23), (b1, aO #[iV p.ll, iV p.lh, iV p.ul, iV p.uh, .slice p.ea p.es.length p.ec] 26), ((β 13), aO #[iV X.1, iV X.2] 23)]⟩) (fun β => by kernel_rfl) (fun β4 => ?_)
        cases hd4 : (decide (X.2 < X.1)) with
        | false =>
          have hp4 := of_decide_eq_false hd4
          have hxq : possS X = true := decide_eq_true (by omega)
          have hxp : possS (p.n.lost1 n) = true := by rw [← hxl.1]; exact hxq
          have hxe := hxl.2 hxq
          refine run_auto [(41, .bool false), (45, iV (n - X.2)), (49, iV (n - X.1))] 22 [false] [3, 3, 3, 3] [1, 2, 3, 5, 6, 7, 50] [0, 1, 2] (st' := ⟨[(1, pA b1), (2, pA b2), (3, iV 0), (5, pA b3), (6, .bool (smN p n)), (7, iV n), (50, .agg #[iV (n - X.2), iV (n - X.1)])], [(b3, aO #[iV (lsN p n).1, iV (lsN p n).2] 23), (b2, aO #[iV 0, iV 0] 23), (b1, aO #[iV p.ll, iV p.lh, iV p.ul, iV p.uh, .slice p.ea p.es.length p.ec] 26)]⟩) (acc := [(iV (IntKind.i64.wrap (n - X.1)), iV (n - X.1)), (.pointer (some ⟨(β4 13), 0, none⟩), .pointer (some ⟨(β4 13), 0, none⟩)), (iV (IntKind.i64.wrap (n - X.2)), iV (n - X.2)), (.pointer (some ⟨(β4 13), 0, none⟩), .pointer (some ⟨(β4 13), 0, none⟩)), (.bool false, .bool false), (.bool (decide (X.2 < X.1)), .bool false), (.pointer (some ⟨(β4 13), 0, none⟩), .pointer (some ⟨(β4 13), 0, none⟩)), (.pointer (some ⟨(β4 13), 0, none⟩), .pointer (some ⟨(β4 13), 0, none⟩))]) (by kernel_rfl) (by kernel_rfl) ⟨(wr (by omega) (by omega)), rfl, (wr (by omega) (by omega)), rfl, rfl, (bo hd4), rfl, rfl, trivial⟩ ?_
          refine run_new (aO #[iV 0, iV 0] 23) (fun b5 => pA b5) (some 9) (fun _ => by kernel_rfl) (fun b5 hb5 => ?_)
          cases hd5 : (smN p n) with
          | false =>
            refine run_auto [(26, iV (n + 1))] 20 [false] [0, 0, 1] [1, 2, 3, 5, 6, 7] [1, 2, 3] (st' := ⟨[(1, pA b1), (2, pA b2), (3, iV 0), (5, pA b3), (6, .bool true), (7, iV (n + 1))], [(b3, aO #[iV (n - X.2), iV (n - X.1)] 23), (b2, aO #[iV 0, iV 0] 23), (b1, aO #[iV p.ll, iV p.lh, iV p.ul, iV p.uh, .slice p.ea p.es.length p.ec] 26)]⟩) (acc := [(iV (IntKind.i64.wrap (n + 1)), iV (n + 1)), (pA b3, pA b3), (pA b5, pA b5), (.bool false, .bool false), (pA b5, pA b5)]) (by kernel_rfl) (by kernel_rfl) ⟨(wr (by omega) (by omega)), rfl, rfl, rfl, rfl, trivial⟩ ?_
            have hj := hJ0 (n + 1) ⟨by omega, by omega⟩ (by omega)
            rw [(ls_yes hn1 hxp).1, (ls_yes hn1 hxp).2.1 hd5, ← hxe] at hj
            exact run_round (by kernel_rfl) hj
          | true =>
            refine run_auto [(56, iV (min (lsN p n).1 (n - X.2))), (61, iV (max (lsN p n).2 (n - X.1))), (26, iV (n + 1))] 33 [true] [0, 1, 0, 1, 0, 0, 0, 1] [1, 2, 3, 5, 6, 7] [1, 2, 3] (st' := ⟨[(1, pA b1), (2, pA b2), (3, iV 0), (5, pA b3), (6, .bool true), (7, iV (n + 1))], [(b3, aO #[iV (min (lsN p n).1 (n - X.2)), iV (max (lsN p n).2 (n - X.1))] 23), (b2, aO #[iV 0, iV 0] 23), (b1, aO #[iV p.ll, iV p.lh, iV p.ul, iV p.uh, .slice p.ea p.es.length p.ec] 26)]⟩) (acc := [(iV (IntKind.i64.wrap (n + 1)), iV (n + 1)), (pA b3, pA b3), (pA b5, pA b5), (pA b5, pA b5), (iV (if (n - X.1) > (lsN p n).2 then (n - X.1) else (lsN p n).2), iV (max (lsN p n).2 (n - X.1))), (pA b5, pA b5), (pA b3, pA b3), (iV (if (n - X.2) < (lsN p n).1 then (n - X.2) else (lsN p n).1), iV (min (lsN p n).1 (n - X.2))), (pA b5, pA b5), (pA b3, pA b3), (.bool true, .bool true), (pA b5, pA b5)]) (by kernel_rfl) (by kernel_rfl) ⟨(wr (by omega) (by omega)), rfl, rfl, rfl, (mx _ _ _), rfl, rfl, (mn _ _ _), rfl, rfl, rfl, rfl, trivial⟩ ?_
            have hj := hJ0 (n + 1) ⟨by omega, by omega⟩ (by omega)
            rw [(ls_yes hn1 hxp).1, (ls_yes hn1 hxp).2.2 hd5, ← hxe] at hj
            exact run_round (by kernel_rfl) hj
        | true =>
          have hp4 := of_decide_eq_true hd4
          have hxo : possS (p.n.lost1 n) = false := by rw [← hxl.1]; exact decide_eq_false (by omega)
          refine run_auto [(41, .bool true), (26, iV (n + 1))] 16 [true] [3, 3] [1, 2, 3, 5, 6, 7] [0, 1, 2] (st' := ⟨[(1, pA b1), (2, pA b2), (3, iV 0), (5, pA b3), (6, .bool (smN p n)), (7, iV (n + 1))], [(b3, aO #[iV (lsN p n).1, iV (lsN p n).2] 23), (b2, aO #[iV 0, iV 0] 23), (b1, aO #[iV p.ll, iV p.lh, iV p.ul, iV p.uh, .slice p.ea p.es.length p.ec] 26)]⟩) (acc := [(iV (IntKind.i64.wrap (n + 1)), iV (n + 1)), (.bool true, .bool true), (.bool (decide (X.2 < X.1)), .bool true), (.pointer (some ⟨(β4 13), 0, none⟩), .pointer (some ⟨(β4 13), 0, none⟩)), (.pointer (some ⟨(β4 13), 0, none⟩), .pointer (some ⟨(β4 13), 0, none⟩))]) (by kernel_rfl) (by kernel_rfl) ⟨(wr (by omega) (by omega)), rfl, (bo hd4), rfl, rfl, trivial⟩ ?_
          have hj := hJ0 (n + 1) ⟨by omega, by omega⟩ (by omega)
          rw [(ls_no hn1 hxo).1, (ls_no hn1 hxo).2] at hj
          exact run_round (by kernel_rfl) hj

end Go.Proofs.YtdjnkdelmmpleaaGreat
