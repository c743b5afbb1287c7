/-
  LAW: SettleLatest, walked.
-/
import Derived.Test.YtfjfkaaflghaiaaHL1
namespace Go.Proofs.Ytfjfkaaflghaiaa
open Go.RowKit Go.Proofs.Try
attribute [local irreducible] Run wpK

set_option maxRecDepth 100000 in
set_option maxHeartbeats 4000000 in
theorem settleLatest_any (p : Sb) (y z v : Int) (y1 : 0 ≤ y) (y2 : y ≤ 255) (z1 : 0 ≤ z) (z2 : z ≤ 255) (v1 : 0 ≤ v) (v2 : v ≤ 255) (w : World) (hp : p.In w) : Calls Try.prog 8 #[.agg #[.slice p.ba p.bs.length p.bc, .int .i64 p.near, .int .i64 p.last, .slice p.ta p.ts.length p.tc], .int .u8 y, .int .u8 z, .int .u8 v] w (RetB true w) := by
  obtain ⟨r, hr⟩ : ∃ r, z % 201 = r := ⟨_, rfl⟩
  obtain ⟨ht, hh⟩ : ∃ x, r - 100 = x := ⟨_, rfl⟩
  have hlb := hp.lb
  have hlt0 := hp.lt
  simp only [maxLen] at hlb hlt0
  refine calls_run (fn := f8) (c := (f8.body).getD .skip) [.agg #[.slice p.ba p.bs.length p.bc, .int .i64 p.near, .int .i64 p.last, .slice p.ta p.ts.length p.tc], .int .u8 y, .int .u8 z, .int .u8 v] func8 (by kernel_rfl) (fun _ => False) [] (fun _ h => by cases h) (List.Pairwise.nil) 111 (by kernel_rfl) (by simp) ?_
  refine run_auto [] 2 [] [] [0, 1, 2, 3] [] (st' := ⟨[(0, .agg #[.slice p.ba p.bs.length p.bc, iV p.near, iV p.last, .slice p.ta p.ts.length p.tc]), (1, .int .u8 y), (2, .int .u8 z), (3, .int .u8 v)], []⟩) (acc := []) (by kernel_rfl) (by kernel_rfl) trivial ?_
  refine run_new (aO #[.slice p.ba p.bs.length p.bc, iV p.near, iV p.last, .slice p.ta p.ts.length p.tc] 33) (fun b1 => pA b1) (some 4) (fun _ => by kernel_rfl) (fun b1 hb1 => ?_)
  refine run_auto [] 6 [] [0] [1, 2, 3, 4, 8, 17] [0] (st' := ⟨[(1, .int .u8 y), (2, .int .u8 z), (3, .int .u8 v), (4, pA b1), (8, .bool false), (17, .agg #[.slice p.ba p.bs.length p.bc, iV p.near, iV p.last, .slice p.ta p.ts.length p.tc])], [(b1, aO #[.slice p.ba p.bs.length p.bc, iV p.near, iV p.last, .slice p.ta p.ts.length p.tc] 33)]⟩) (acc := [(pA b1, pA b1)]) (by kernel_rfl) (by kernel_rfl) ⟨rfl, trivial⟩ ?_
  cases hd1 : (lonB p) with
  | false =>
    refine run_ret1 21 #[.agg #[.slice p.ba p.bs.length p.bc, iV p.near, iV p.last, .slice p.ta p.ts.length p.tc]] (some 18) (.bool false) (by kernel_rfl) (fun w1 k1 h1 => (by have h := long_any p w1; rw [hd1] at h; exact h)) ?_
    refine run_auto [] 2 [] [0] [1, 2, 3, 4, 8, 19, 20] [0] (st' := ⟨[(1, .int .u8 y), (2, .int .u8 z), (3, .int .u8 v), (4, pA b1), (8, .bool false), (19, .bool false), (20, .agg #[.slice p.ba p.bs.length p.bc, iV p.near, iV p.last, .slice p.ta p.ts.length p.tc])], [(b1, aO #[.slice p.ba p.bs.length p.bc, iV p.near, iV p.last, .slice p.ta p.ts.length p.tc] 33)]⟩) (acc := [(pA b1, pA b1)]) (by kernel_rfl) (by kernel_rfl) ⟨rfl, trivial⟩ ?_
    cases hd2 : p.n.ok with
    | false =>
      refine run_ret1 22 #[.agg #[.slice p.ba p.bs.length p.bc, iV p.near, iV p.last, .slice p.ta p.ts.length p.tc]] (some 21) (.bool false) (by kernel_rfl) (fun w1 k1 h1 => (by have h := rsettle_any p w1 (hp.keep (k1.keeps (fun _ h => h))); rw [hd2] at h; exact h)) ?_
      refine run_auto [(22, .bool true)] 12 [true] [] [1, 2, 3, 4, 8] [0] (st' := ⟨[(1, .int .u8 y), (2, .int .u8 z), (3, .int .u8 v), (4, pA b1), (8, .bool false)], [(b1, aO #[.slice p.ba p.bs.length p.bc, iV p.near, iV p.last, .slice p.ta p.ts.length p.tc] 33)]⟩) (acc := [(.bool true, .bool true), (.bool true, .bool true)]) (by kernel_rfl) (by kernel_rfl) ⟨rfl, rfl, trivial⟩ ?_
      refine run_ret1 19 #[] (some 30) (.bool true) (by kernel_rfl) (fun w1 k1 h1 => alive_any w1) ?_
      refine run_auto [] 2 [] [] [1, 2, 3, 4, 8] [0] (st' := ⟨[(1, .int .u8 y), (2, .int .u8 z), (3, .int .u8 v), (4, pA b1), (8, .bool true)], [(b1, aO #[.slice p.ba p.bs.length p.bc, iV p.near, iV p.last, .slice p.ta p.ts.length p.tc] 33)]⟩) (acc := []) (by kernel_rfl) (by kernel_rfl) trivial ?_
      refine run_end (fn := f8) rfl (Nat.le_refl _) (by kernel_rfl) [] [.bool true] (e := []) (by kernel_rfl) trivial (fun w1 k1 h1 => ?_)
      exact ⟨rfl, k1.keeps (fun _ h => h)⟩
    | true =>
      have hok := hd2
      have hF := Sn.fine hok
      have hl1 := lastN_is hok
      have hn1 : 1 ≤ p.bs.length := hF.n1
      have hn4 : p.bs.length ≤ 4 := hF.n4
      have hl2 : 1 ≤ p.last ∧ p.last ≤ 60 := hl1
      obtain ⟨b, hbe, hbm⟩ := emod_nat (x := y) (n := (p.bs.length : Int)) (by omega)
      obtain ⟨m, hm1, hm3⟩ := emod_nat (x := v) (n := p.last + 1) (by omega)
      have hbl : b < p.bs.length := by omega
      have hm2 : (m : Int) ≤ p.last := by omega
      obtain ⟨nv, hnv⟩ : ∃ x, inA (latR p.n b ht m) = x := ⟨_, rfl⟩
      obtain ⟨ne, hne⟩ : ∃ x, erA (latR p.n b ht m) = x := ⟨_, rfl⟩
      have hY := lat_is hok hbl hm2 (by omega) hnv hne
      have hq := hY.q
      refine run_ret1 22 #[.agg #[.slice p.ba p.bs.length p.bc, iV p.near, iV p.last, .slice p.ta p.ts.length p.tc]] (some 21) (.bool true) (by kernel_rfl) (fun w1 k1 h1 => (by have h := rsettle_any p w1 (hp.keep (k1.keeps (fun _ h => h))); rw [hd2] at h; exact h)) ?_
      cases hd3 : (decide (6 ≤ (p.ts.length : Int))) with
      | false =>
        have hp3 := of_decide_eq_false hd3
        refine run_auto [(22, .bool false), (28, .bool false)] 12 [false] [0] [1, 2, 3, 4, 8] [0] (st' := ⟨[(1, .int .u8 y), (2, .int .u8 z), (3, .int .u8 v), (4, pA b1), (8, .bool false)], [(b1, aO #[.slice p.ba p.bs.length p.bc, iV p.near, iV p.last, .slice p.ta p.ts.length p.tc] 33)]⟩) (acc := [(.bool false, .bool false), (.bool (decide (6 ≤ (p.ts.length : Int))), .bool false), (pA b1, pA b1), (.bool false, .bool false)]) (by kernel_rfl) (by kernel_rfl) ⟨rfl, (bo hd3), rfl, rfl, trivial⟩ ?_
        refine drawW 19 [{ val := fun _ => .int .u8 y, slots := [1] },
                  { val := fun _ => iV y, slots := [31] },
                  { val := fun _ => pA b1, slots := [4] },
                  { val := fun _ => .slice p.ba p.bs.length p.bc, slots := [33], reads := [0] },
                  { val := fun _ => iV (p.bs.length : Int), slots := [34] },
                  { val := fun _ => iV (b : Int), slots := [32, 35] },
                  { val := fun _ => .int .u8 z, slots := [2] },
                  { val := fun _ => iV z, slots := [37] },
                  { val := fun _ => iV r, slots := [38] },
                  { val := fun _ => iV ht, slots := [39] },
                  { val := fun _ => .int .u8 v, slots := [3] },
                  { val := fun _ => iV v, slots := [41] },
                  { val := fun _ => .pointer (some ⟨b1, 2, none⟩), slots := [4] },
                  { val := fun _ => iV p.last, slots := [43], reads := [0] },
                  { val := fun _ => iV (p.last + 1), slots := [44] },
                  { val := fun _ => iV (m : Int), slots := [42, 45] },
                  { val := fun _ => iV (b : Int), slots := [36] },
                  { val := fun _ => iV ht, slots := [40] },
                  { val := fun _ => iV (m : Int), slots := [46] }] [[], [0], [], [2], [2, 3], [0, 1, 2, 3, 4], [], [6], [6, 7], [6, 7, 8], [], [10], [], [12], [12, 13], [10, 11, 12, 13, 14], [0, 1, 2, 3, 4, 5], [0, 1, 2, 3, 4, 5, 6, 7, 8, 9, 16], [0, 1, 2, 3, 4, 5, 6, 7, 8, 9, 10, 11, 12, 13, 14, 15, 16, 17]] (by kernel_rfl) (by kernel_rfl) (by kernel_rfl) (by kernel_rfl) [4, 8, 9, 10, 11] [0] (by kernel_rfl)
                  ⟨⟨⟨⟨⟨⟨⟨⟨⟨⟨⟨⟨⟨⟨⟨⟨⟨⟨⟨trivial,
                  tri_quietW (fun β => []) [] [] (fun β => []) (by kernel_rfl) (fun β extra => by kernel_rfl) (by kernel_rfl) (fun β => trivial)⟩,
                  tri_quietW (fun β => [(32, iV y)]) [] [] (fun β => [(iV (IntKind.i64.wrap y), iV y)]) (by kernel_rfl) (fun β extra => by kernel_rfl) (by kernel_rfl) (fun β => ⟨(wr (by omega) (by omega)), trivial⟩)⟩,
                  tri_quietW (fun β => []) [] [] (fun β => []) (by kernel_rfl) (fun β extra => by kernel_rfl) (by kernel_rfl) (fun β => trivial)⟩,
                  tri_quietW (fun β => []) [0] [0] (fun β => [(pA b1, pA b1)]) (by kernel_rfl) (fun β extra => by kernel_rfl) (by kernel_rfl) (fun β => ⟨rfl, trivial⟩)⟩,
                  tri_quietW (fun β => []) [] [] (fun β => []) (by kernel_rfl) (fun β extra => by kernel_rfl) (by kernel_rfl) (fun β => trivial)⟩,
                  tri_vVW (fun β => iV (b : Int)) (fun β => by kernel_rfl) (fun β => (binOp .rem 3 (iV y) (iV (p.bs.length : Int)) >>= fun v => pure (Next.value v))) (by kernel_rfl) (fun β extra => by kernel_rfl) (fun β => by kernel_rfl) (fun β w1 k1 h1 => (by have h := rem_run (P := Try.prog) (w := w1) (t := 3) y (p.bs.length : Int) (by omega) (by omega); rw [hbe] at h; exact h))⟩,
                  tri_quietW (fun β => []) [] [] (fun β => []) (by kernel_rfl) (fun β extra => by kernel_rfl) (by kernel_rfl) (fun β => trivial)⟩,
                  tri_quietW (fun β => [(38, iV z)]) [] [] (fun β => [(iV (IntKind.i64.wrap z), iV z)]) (by kernel_rfl) (fun β extra => by kernel_rfl) (by kernel_rfl) (fun β => ⟨(wr (by omega) (by omega)), trivial⟩)⟩,
                  tri_quietW (fun β => [(39, iV r)]) [] [] (fun β => [(iV (Int.tmod z 201), iV r)]) (by kernel_rfl) (fun β extra => by kernel_rfl) (by kernel_rfl) (fun β => ⟨((rm 201 (by omega)).trans (io hr)), trivial⟩)⟩,
                  tri_quietW (fun β => [(40, iV ht)]) [] [] (fun β => [(iV (IntKind.i64.wrap (r - 100)), iV ht)]) (by kernel_rfl) (fun β extra => by kernel_rfl) (by kernel_rfl) (fun β => ⟨((wr (by omega) (by omega)).trans (io hh)), trivial⟩)⟩,
                  tri_quietW (fun β => []) [] [] (fun β => []) (by kernel_rfl) (fun β extra => by kernel_rfl) (by kernel_rfl) (fun β => trivial)⟩,
                  tri_quietW (fun β => [(42, iV v)]) [] [] (fun β => [(iV (IntKind.i64.wrap v), iV v)]) (by kernel_rfl) (fun β extra => by kernel_rfl) (by kernel_rfl) (fun β => ⟨(wr (by omega) (by omega)), trivial⟩)⟩,
                  tri_quietW (fun β => []) [] [] (fun β => []) (by kernel_rfl) (fun β extra => by kernel_rfl) (by kernel_rfl) (fun β => trivial)⟩,
                  tri_quietW (fun β => []) [0] [0] (fun β => [(pA b1, pA b1)]) (by kernel_rfl) (fun β extra => by kernel_rfl) (by kernel_rfl) (fun β => ⟨rfl, trivial⟩)⟩,
                  tri_quietW (fun β => [(45, iV (p.last + 1))]) [] [] (fun β => [(iV (IntKind.i64.wrap (p.last + 1)), iV (p.last + 1))]) (by kernel_rfl) (fun β extra => by kernel_rfl) (by kernel_rfl) (fun β => ⟨(wr (by omega) (by omega)), trivial⟩)⟩,
                  tri_vVW (fun β => iV (m : Int)) (fun β => by kernel_rfl) (fun β => (binOp .rem 3 (iV v) (iV (p.last + 1)) >>= fun v => pure (Next.value v))) (by kernel_rfl) (fun β extra => by kernel_rfl) (fun β => by kernel_rfl) (fun β w1 k1 h1 => (by have h := rem_run (P := Try.prog) (w := w1) (t := 3) v (p.last + 1) (by omega) (by omega); rw [hm1] at h; exact h))⟩,
                  tri_quietW (fun β => []) [] [] (fun β => []) (by kernel_rfl) (fun β extra => by kernel_rfl) (by kernel_rfl) (fun β => trivial)⟩,
                  tri_quietW (fun β => []) [] [] (fun β => []) (by kernel_rfl) (fun β extra => by kernel_rfl) (by kernel_rfl) (fun β => trivial)⟩,
                  tri_quietW (fun β => []) [] [] (fun β => []) (by kernel_rfl) (fun β extra => by kernel_rfl) (by kernel_rfl) (fun β => trivial)⟩
                  (fun β => ⟨[(4, pA b1), (8, .bool false), (9, iV (b : Int)), (10, iV ht), (11, iV (m : Int))], [(b1, aO #[.slice p.ba p.bs.length p.bc, iV p.near, iV p.last, .slice p.ta p.ts.length p.tc] 33)]⟩) (fun β => by kernel_rfl) (fun β2 => ?_)
        refine run_auto [] 6 [] [0] [4, 8, 9, 10, 11, 48, 49, 50, 51] [0] (st' := ⟨[(4, pA b1), (8, .bool false), (9, iV (b : Int)), (10, iV ht), (11, iV (m : Int)), (48, .agg #[.slice p.ba p.bs.length p.bc, iV p.near, iV p.last, .slice p.ta p.ts.length p.tc]), (49, iV (b : Int)), (50, iV ht), (51, iV (m : Int))], [(b1, aO #[.slice p.ba p.bs.length p.bc, iV p.near, iV p.last, .slice p.ta p.ts.length p.tc] 33)]⟩) (acc := [(pA b1, pA b1)]) (by kernel_rfl) (by kernel_rfl) ⟨rfl, trivial⟩ ?_
        refine run_ret1 18 #[.agg #[.slice p.ba p.bs.length p.bc, iV p.near, iV p.last, .slice p.ta p.ts.length p.tc], iV (b : Int), iV ht, iV (m : Int)] (some 52) (.tuple #[iV nv, iV ne]) (by kernel_rfl) (fun w1 k1 h1 => (by have h := Latest_any p (b : Int) (m : Int) ht w1 (hp.keep (k1.keeps (fun _ h => h))); rw [hnv, hne] at h; exact h)) ?_
        cases hd4 : (ne != 0) with
        | false =>
          have hp4 : ne = 0 := by simpa using hd4
          cases hd5 : (decide (nv < 0)) with
          | false =>
            have hp5 := of_decide_eq_false hd5
            cases hd6 : (decide ((m : Int) < nv)) with
            | false =>
              have hp6 := of_decide_eq_false hd6
              refine run_auto [(56, .bool false), (67, .bool false), (72, .bool false)] 38 [false] [] [4, 8, 9, 10, 11, 12, 13, 14] [0] (st' := ⟨[(4, pA b1), (8, .bool false), (9, iV (b : Int)), (10, iV ht), (11, iV (m : Int)), (12, iV nv), (13, iV ne), (14, iV (m : Int))], [(b1, aO #[.slice p.ba p.bs.length p.bc, iV p.near, iV p.last, .slice p.ta p.ts.length p.tc] 33)]⟩) (acc := [(.bool false, .bool false), (.bool (decide ((m : Int) < nv)), .bool false), (.bool (decide (nv < 0)), .bool false), (.bool (ne != 0), .bool false)]) (by kernel_rfl) (by kernel_rfl) ⟨rfl, (bo hd6), (bo hd5), (bo hd4), trivial⟩ ?_
              refine run_auto [] 0 [] [] [4, 8, 9, 10, 11, 12, 13, 14] [0] (st' := ⟨[(4, pA b1), (8, .bool false), (9, iV (b : Int)), (10, iV ht), (11, iV (m : Int)), (12, iV nv), (13, iV ne), (14, iV (m : Int))], [(b1, aO #[.slice p.ba p.bs.length p.bc, iV p.near, iV p.last, .slice p.ta p.ts.length p.tc] 33)]⟩) (acc := []) (by kernel_rfl) (by kernel_rfl) trivial ?_
              refine run_loop (S := fun (i : Nat) => ⟨[(4, pA b1), (8, .bool false), (9, iV (b : Int)), (10, iV ht), (11, iV (m : Int)), (12, iV nv), (13, iV ne), (14, iV ((m : Int) - (i : Int)))], [(b1, aO #[.slice p.ba p.bs.length p.bc, iV p.near, iV p.last, .slice p.ta p.ts.length p.tc] 33)]⟩) (fun i => i ≤ m + 1 ∧ ∀ j, j < i → latF p.n b ht m j = false) (fun i => m + 1 - i) (0) (by kernel_rfl) (⟨Nat.zero_le _, fun _ h => by cases h⟩) (by kernel_rfl) (fun i hI0 J0 hJ0 => ?_)
              obtain ⟨hA1, hA2⟩ := hI0
              cases hd7 : (decide (0 ≤ ((m : Int) - (i : Int)))) with
              | false =>
                have hp7 := of_decide_eq_false hd7
                have hne4 := hY.miss (fun j hj => hA2 j (by omega))
                cases hd8 : (ne == 4) with
                | false =>
                  have hp8 : ¬ ne = 4 := by simpa using hd8
                  refine run_auto [(76, .bool false), (107, .bool false)] 17 [false] [] [8] [] (st' := ⟨[(8, .bool false)], []⟩) (acc := [(.bool (ne == 4), .bool false), (.bool false, .bool false), (.bool (decide (0 ≤ ((m : Int) - (i : Int)))), .bool false)]) (by kernel_rfl) (by kernel_rfl) ⟨(bo hd8), rfl, (bo hd7), trivial⟩ ?_
                  refine run_end (fn := f8) rfl (Nat.le_refl _) (by kernel_rfl) [] [.bool false] (e := []) (by kernel_rfl) trivial (fun w1 k1 h1 => ?_)
                  exfalso
                  omega
                | true =>
                  have hp8 : ne = 4 := by simpa using hd8
                  refine run_auto [(76, .bool false), (107, .bool true)] 13 [false] [] [8, 108] [] (st' := ⟨[(8, .bool false), (108, .bool true)], []⟩) (acc := [(.bool (ne == 4), .bool true), (.bool false, .bool false), (.bool (decide (0 ≤ ((m : Int) - (i : Int)))), .bool false)]) (by kernel_rfl) (by kernel_rfl) ⟨(bo hd8), rfl, (bo hd7), trivial⟩ ?_
                  refine run_ret1 19 #[] (some 109) (.bool true) (by kernel_rfl) (fun w1 k1 h1 => alive_any w1) ?_
                  refine run_auto [] 3 [] [] [8] [] (st' := ⟨[(8, .bool true)], []⟩) (acc := []) (by kernel_rfl) (by kernel_rfl) trivial ?_
                  refine run_end (fn := f8) rfl (Nat.le_refl _) (by kernel_rfl) [] [.bool true] (e := []) (by kernel_rfl) trivial (fun w1 k1 h1 => ?_)
                  exact ⟨rfl, k1.keeps (fun _ h => h)⟩
              | true =>
                have hp7 := of_decide_eq_true hd7
                have him : i ≤ m := by omega
                obtain ⟨jv, hjv⟩ : ∃ x, (p.n.tch ((b : Int), (m : Int) - (i : Int), ht, ht)).judge b m = x := ⟨_, rfl⟩
                have hlf := latF_is him hjv
                have hokt := tch_ok hok (show p.n.ts.length ≤ 5 by show p.ts.length ≤ 5; omega) (t := ((b : Int), (m : Int) - (i : Int), ht, ht)) (by unfold vTc; rw [show inI (b : Int) 0 ((p.n.bs.length : Int) - 1) = true from decide_eq_true (by show 0 ≤ (b : Int) ∧ (b : Int) ≤ (p.bs.length : Int) - 1; omega), show inI ((m : Int) - (i : Int)) 0 p.n.last = true from decide_eq_true (by show 0 ≤ (m : Int) - (i : Int) ∧ (m : Int) - (i : Int) ≤ p.last; omega)]; exact decide_eq_true (by dsimp only; omega))
                refine run_auto [(76, .bool true)] 11 [true] [] [4, 8, 9, 10, 11, 12, 13, 14] [0] (st' := ⟨[(4, pA b1), (8, .bool false), (9, iV (b : Int)), (10, iV ht), (11, iV (m : Int)), (12, iV nv), (13, iV ne), (14, iV ((m : Int) - (i : Int)))], [(b1, aO #[.slice p.ba p.bs.length p.bc, iV p.near, iV p.last, .slice p.ta p.ts.length p.tc] 33)]⟩) (acc := [(.bool true, .bool true), (.bool (decide (0 ≤ ((m : Int) - (i : Int)))), .bool true)]) (by kernel_rfl) (by kernel_rfl) ⟨rfl, (bo hd7), trivial⟩ ?_
                refine drawW 15 [{ val := fun _ => .agg #[.slice p.ba p.bs.length p.bc, iV p.near, iV p.last, .slice p.ta p.ts.length p.tc], slots := [4], reads := [0] },
                                  { val := fun _ => iV (b : Int), slots := [9] },
                                  { val := fun _ => iV ((m : Int) - (i : Int)), slots := [14] },
                                  { val := fun _ => iV ht, slots := [10] },
                                  { val := fun _ => iV ht, slots := [10] },
                                  { val := fun _ => .agg #[iV (b : Int), iV ((m : Int) - (i : Int)), iV ht, iV ht], slots := [81, 82, 83, 84] },
                                  { names := [7, 1000007, 2000007], val := fun l => .agg #[.slice p.ba p.bs.length p.bc, iV p.near, iV p.last, .slice (some ⟨(l.getD 0 0), 0, none⟩) ((p.ts ++ [(((b : Int), (m : Int) - (i : Int), ht, ht) : Tc)]).length) (capW p.ts.length (l.getD 1 0) (l.getD 2 0))], upd := [(7, fun l => cO ((p.ts ++ [(((b : Int), (m : Int) - (i : Int), ht, ht) : Tc)]).flatMap tcR ++ spW p.ts.length (l.getD 1 0) (l.getD 2 0)) 61)], news := [7, 1000007, 2000007], slots := [80, 85] },
                                  { val := fun _ => iV (b : Int), slots := [9] },
                                  { val := fun _ => iV (m : Int), slots := [11] },
                                  { val := fun _ => .tuple #[iV jv, iV 0], slots := [86, 87, 88], reads := [7] },
                                  { val := fun _ => .tuple #[iV jv, iV 0], slots := [89] },
                                  { val := fun _ => iV jv, slots := [79] },
                                  { val := fun _ => iV 0, slots := [79] },
                                  { val := fun _ => iV jv, slots := [90] },
                                  { val := fun _ => iV 0, slots := [91] }] [[], [], [], [], [], [1, 2, 3, 4], [0, 1, 2, 3, 4, 5], [], [], [0, 1, 2, 3, 4, 5, 6, 7, 8], [0, 1, 2, 3, 4, 5, 6, 7, 8, 9], [0, 1, 2, 3, 4, 5, 6, 7, 8, 9, 10], [0, 1, 2, 3, 4, 5, 6, 7, 8, 9, 10], [0, 1, 2, 3, 4, 5, 6, 7, 8, 9, 10, 11], [0, 1, 2, 3, 4, 5, 6, 7, 8, 9, 10, 11, 12, 13]] (by kernel_rfl) (by kernel_rfl) (by kernel_rfl) (by kernel_rfl) [4, 8, 9, 10, 11, 12, 13, 14, 15, 16] [0] (by kernel_rfl)
                                  ⟨⟨⟨⟨⟨⟨⟨⟨⟨⟨⟨⟨⟨⟨⟨trivial,
                                  tri_quietW (fun β => []) [0] [0] (fun β => [(pA b1, pA b1)]) (by kernel_rfl) (fun β extra => by kernel_rfl) (by kernel_rfl) (fun β => ⟨rfl, trivial⟩)⟩,
                                  tri_quietW (fun β => []) [] [] (fun β => []) (by kernel_rfl) (fun β extra => by kernel_rfl) (by kernel_rfl) (fun β => trivial)⟩,
                                  tri_quietW (fun β => []) [] [] (fun β => []) (by kernel_rfl) (fun β extra => by kernel_rfl) (by kernel_rfl) (fun β => trivial)⟩,
                                  tri_quietW (fun β => []) [] [] (fun β => []) (by kernel_rfl) (fun β extra => by kernel_rfl) (by kernel_rfl) (fun β => trivial)⟩,
                                  tri_quietW (fun β => []) [] [] (fun β => []) (by kernel_rfl) (fun β extra => by kernel_rfl) (by kernel_rfl) (fun β => trivial)⟩,
                                  tri_callVW (fun β => .agg #[iV (b : Int), iV ((m : Int) - (i : Int)), iV ht, iV ht]) (fun β => by kernel_rfl) 29 (fun β => #[iV (b : Int), iV ((m : Int) - (i : Int)), iV ht, iV ht]) (by kernel_rfl) (fun β extra => by kernel_rfl) (fun β => by kernel_rfl) (fun β w1 k1 h1 => touch_any (b : Int) ((m : Int) - (i : Int)) ht ht w1)⟩,
                                  tri_nwn 7 1000007 2000007 rfl rfl (fun β nb_ nx_ ny_ => .agg #[.slice p.ba p.bs.length p.bc, iV p.near, iV p.last, sV nb_ ((p.ts ++ [(((b : Int), (m : Int) - (i : Int), ht, ht) : Tc)]).length) (capW p.ts.length nx_ ny_)]) (fun β nb_ nx_ ny_ => cO ((p.ts ++ [(((b : Int), (m : Int) - (i : Int), ht, ht) : Tc)]).flatMap tcR ++ spW p.ts.length nx_ ny_) 61) 28 (fun β => #[.agg #[.slice p.ba p.bs.length p.bc, iV p.near, iV p.last, .slice p.ta p.ts.length p.tc], .agg #[iV (b : Int), iV ((m : Int) - (i : Int)), iV ht, iV ht]]) (by kernel_rfl) (fun β extra => by kernel_rfl) (fun β nb_ nx_ ny_ => rfl) (fun β nb_ nx_ ny_ => by kernel_rfl) (fun β nb_ nx_ ny_ => by kernel_rfl) (fun β nb_ nx_ ny_ => by kernel_rfl) (fun β w1 k1 h1 => with_any p ((b : Int), (m : Int) - (i : Int), ht, ht) w1 (hp.keep (k1.keeps (fun _ h => h))) (by omega))⟩,
                                  tri_quietW (fun β => []) [] [] (fun β => []) (by kernel_rfl) (fun β extra => by kernel_rfl) (by kernel_rfl) (fun β => trivial)⟩,
                                  tri_quietW (fun β => []) [] [] (fun β => []) (by kernel_rfl) (fun β extra => by kernel_rfl) (by kernel_rfl) (fun β => trivial)⟩,
                                  tri_callVW (fun β => .tuple #[iV jv, iV 0]) (fun β => by kernel_rfl) 14 (fun β => #[.agg #[.slice p.ba p.bs.length p.bc, iV p.near, iV p.last, .slice (some ⟨(β 7), 0, none⟩) ((p.ts ++ [(((b : Int), (m : Int) - (i : Int), ht, ht) : Tc)]).length) (capW p.ts.length (β 1000007) (β 2000007))], iV (b : Int), iV (m : Int)]) (by kernel_rfl) (fun β extra => by kernel_rfl) (fun β => by kernel_rfl) (fun β w1 k1 h1 => (by have h := Settled_any (p.wit ((b : Int), (m : Int) - (i : Int), ht, ht) (β 7) (β 1000007) (β 2000007)) (b : Int) (m : Int) w1 (wit_in (hp.keep (k1.keeps (fun _ h => h))) (by omega) (h1 ((β 7), cO ((p.ts ++ [(((b : Int), (m : Int) - (i : Int), ht, ht) : Tc)]).flatMap tcR ++ spW p.ts.length (β 1000007) (β 2000007)) 61) (List.mem_of_getElem? (i := 0) (by kernel_rfl)))); rw [show setR (p.wit ((b : Int), (m : Int) - (i : Int), ht, ht) (β 7) (β 1000007) (β 2000007)).n (b : Int) (m : Int) = .inr jv from (set_is (s := p.n.tch ((b : Int), (m : Int) - (i : Int), ht, ht)) hokt hbl hm2).trans (congrArg _ hjv)] at h; exact h))⟩,
                                  tri_quietW (fun β => []) [] [] (fun β => []) (by kernel_rfl) (fun β extra => by kernel_rfl) (by kernel_rfl) (fun β => trivial)⟩,
                                  tri_quietW (fun β => []) [] [] (fun β => []) (by kernel_rfl) (fun β extra => by kernel_rfl) (by kernel_rfl) (fun β => trivial)⟩,
                                  tri_quietW (fun β => []) [] [] (fun β => []) (by kernel_rfl) (fun β extra => by kernel_rfl) (by kernel_rfl) (fun β => trivial)⟩,
                                  tri_quietW (fun β => []) [] [] (fun β => []) (by kernel_rfl) (fun β extra => by kernel_rfl) (by kernel_rfl) (fun β => trivial)⟩,
                                  tri_quietW (fun β => []) [] [] (fun β => []) (by kernel_rfl) (fun β extra => by kernel_rfl) (by kernel_rfl) (fun β => trivial)⟩
                                  (fun β => ⟨[(4, pA b1), (8, .bool false), (9, iV (b : Int)), (10, iV ht), (11, iV (m : Int)), (12, iV nv), (13, iV ne), (14, iV ((m : Int) - (i : Int))), (15, iV jv), (16, iV 0)], [(b1, aO #[.slice p.ba p.bs.length p.bc, iV p.near, iV p.last, .slice p.ta p.ts.length p.tc] 33)]⟩) (fun β => by kernel_rfl) (fun β3 => ?_)
                cases hd8 : (jv == 2) with
                | false =>
                  have hp8 : ¬ jv = 2 := by simpa using hd8
                  refine run_auto [(93, .bool false), (95, .bool false), (78, iV ((m : Int) - ((i + 1 : Nat) : Int)))] 21 [false, false] [] [4, 8, 9, 10, 11, 12, 13, 14] [0] (st' := ⟨[(4, pA b1), (8, .bool false), (9, iV (b : Int)), (10, iV ht), (11, iV (m : Int)), (12, iV nv), (13, iV ne), (14, iV ((m : Int) - ((i + 1 : Nat) : Int)))], [(b1, aO #[.slice p.ba p.bs.length p.bc, iV p.near, iV p.last, .slice p.ta p.ts.length p.tc] 33)]⟩) (acc := [(iV (IntKind.i64.wrap (((m : Int) - (i : Int)) - 1)), iV ((m : Int) - ((i + 1 : Nat) : Int))), (.bool false, .bool false), (.bool (jv == 2), .bool false), (.bool false, .bool false), (.bool false, .bool false)]) (by kernel_rfl) (by kernel_rfl) ⟨((wr (by omega) (by omega)).trans (io (by omega))), rfl, (bo hd8), rfl, rfl, trivial⟩ ?_
                  exact run_round (by kernel_rfl) (hJ0 (i + 1) (⟨by omega, fun j hj => (Nat.lt_succ_iff_lt_or_eq.1 hj).elim (hA2 j) (fun h => h ▸ hlf.trans hd8)⟩) (by omega))
                | true =>
                  have hp8 : jv = 2 := by simpa using hd8
                  have hht := hY.hit him (hlf.trans hd8) hA2
                  cases hd9 : (ne == 0) with
                  | false =>
                    have hp9 : ¬ ne = 0 := by simpa using hd9
                    refine run_auto [(93, .bool false), (95, .bool true), (97, .bool false)] 28 [false, true] [] [4, 8, 9, 10, 11, 12, 13, 14] [0] (st' := ⟨[(4, pA b1), (8, .bool false), (9, iV (b : Int)), (10, iV ht), (11, iV (m : Int)), (12, iV nv), (13, iV ne), (14, iV ((m : Int) - (i : Int)))], [(b1, aO #[.slice p.ba p.bs.length p.bc, iV p.near, iV p.last, .slice p.ta p.ts.length p.tc] 33)]⟩) (acc := [(.bool (ne == 0), .bool false), (.bool true, .bool true), (.bool (jv == 2), .bool true), (.bool false, .bool false), (.bool false, .bool false)]) (by kernel_rfl) (by kernel_rfl) ⟨(bo hd9), rfl, (bo hd8), rfl, rfl, trivial⟩ ?_
                    refine run_end (fn := f8) rfl (Nat.le_refl _) (by kernel_rfl) [] [.bool false] (e := []) (by kernel_rfl) trivial (fun w1 k1 h1 => ?_)
                    exfalso
                    omega
                  | true =>
                    have hp9 : ne = 0 := by simpa using hd9
                    cases hd10 : (nv == ((m : Int) - (i : Int))) with
                    | false =>
                      have hp10 : ¬ nv = ((m : Int) - (i : Int)) := by simpa using hd10
                      refine run_auto [(93, .bool false), (95, .bool true), (97, .bool true), (101, .bool false)] 28 [false, true] [] [4, 8, 9, 10, 11, 12, 13, 14] [0] (st' := ⟨[(4, pA b1), (8, .bool false), (9, iV (b : Int)), (10, iV ht), (11, iV (m : Int)), (12, iV nv), (13, iV ne), (14, iV ((m : Int) - (i : Int)))], [(b1, aO #[.slice p.ba p.bs.length p.bc, iV p.near, iV p.last, .slice p.ta p.ts.length p.tc] 33)]⟩) (acc := [(.bool (nv == ((m : Int) - (i : Int))), .bool false), (.bool (ne == 0), .bool true), (.bool true, .bool true), (.bool (jv == 2), .bool true), (.bool false, .bool false), (.bool false, .bool false)]) (by kernel_rfl) (by kernel_rfl) ⟨(bo hd10), (bo hd9), rfl, (bo hd8), rfl, rfl, trivial⟩ ?_
                      refine run_end (fn := f8) rfl (Nat.le_refl _) (by kernel_rfl) [] [.bool false] (e := []) (by kernel_rfl) trivial (fun w1 k1 h1 => ?_)
                      exfalso
                      omega
                    | true =>
                      have hp10 : nv = ((m : Int) - (i : Int)) := by simpa using hd10
                      refine run_auto [(93, .bool false), (95, .bool true), (97, .bool true), (101, .bool true)] 24 [false, true] [] [4, 8, 9, 10, 11, 12, 13, 14, 103] [0] (st' := ⟨[(4, pA b1), (8, .bool false), (9, iV (b : Int)), (10, iV ht), (11, iV (m : Int)), (12, iV nv), (13, iV ne), (14, iV ((m : Int) - (i : Int))), (103, .bool true)], [(b1, aO #[.slice p.ba p.bs.length p.bc, iV p.near, iV p.last, .slice p.ta p.ts.length p.tc] 33)]⟩) (acc := [(.bool (nv == ((m : Int) - (i : Int))), .bool true), (.bool (ne == 0), .bool true), (.bool true, .bool true), (.bool (jv == 2), .bool true), (.bool false, .bool false), (.bool false, .bool false)]) (by kernel_rfl) (by kernel_rfl) ⟨(bo hd10), (bo hd9), rfl, (bo hd8), rfl, rfl, trivial⟩ ?_
                      refine run_ret1 19 #[] (some 104) (.bool true) (by kernel_rfl) (fun w1 k1 h1 => alive_any w1) ?_
                      refine run_auto [] 3 [] [] [4, 8, 9, 10, 11, 12, 13, 14] [0] (st' := ⟨[(4, pA b1), (8, .bool true), (9, iV (b : Int)), (10, iV ht), (11, iV (m : Int)), (12, iV nv), (13, iV ne), (14, iV ((m : Int) - (i : Int)))], [(b1, aO #[.slice p.ba p.bs.length p.bc, iV p.near, iV p.last, .slice p.ta p.ts.length p.tc] 33)]⟩) (acc := []) (by kernel_rfl) (by kernel_rfl) trivial ?_
                      refine run_end (fn := f8) rfl (Nat.le_refl _) (by kernel_rfl) [] [.bool true] (e := []) (by kernel_rfl) trivial (fun w1 k1 h1 => ?_)
                      exact ⟨rfl, k1.keeps (fun _ h => h)⟩
            | true =>
              have hp6 := of_decide_eq_true hd6
              refine run_auto [(56, .bool false), (67, .bool false), (72, .bool true)] 34 [true] [] [4, 8, 9, 10, 11, 12, 13] [0] (st' := ⟨[(4, pA b1), (8, .bool false), (9, iV (b : Int)), (10, iV ht), (11, iV (m : Int)), (12, iV nv), (13, iV ne)], [(b1, aO #[.slice p.ba p.bs.length p.bc, iV p.near, iV p.last, .slice p.ta p.ts.length p.tc] 33)]⟩) (acc := [(.bool true, .bool true), (.bool (decide ((m : Int) < nv)), .bool true), (.bool (decide (nv < 0)), .bool false), (.bool (ne != 0), .bool false)]) (by kernel_rfl) (by kernel_rfl) ⟨rfl, (bo hd6), (bo hd5), (bo hd4), trivial⟩ ?_
              refine run_end (fn := f8) rfl (Nat.le_refl _) (by kernel_rfl) [] [.bool false] (e := []) (by kernel_rfl) trivial (fun w1 k1 h1 => ?_)
              exfalso
              omega
          | true =>
            have hp5 := of_decide_eq_true hd5
            refine run_auto [(56, .bool false), (67, .bool true)] 34 [true] [] [4, 8, 9, 10, 11, 12, 13] [0] (st' := ⟨[(4, pA b1), (8, .bool false), (9, iV (b : Int)), (10, iV ht), (11, iV (m : Int)), (12, iV nv), (13, iV ne)], [(b1, aO #[.slice p.ba p.bs.length p.bc, iV p.near, iV p.last, .slice p.ta p.ts.length p.tc] 33)]⟩) (acc := [(.bool true, .bool true), (.bool (decide (nv < 0)), .bool true), (.bool (ne != 0), .bool false)]) (by kernel_rfl) (by kernel_rfl) ⟨rfl, (bo hd5), (bo hd4), trivial⟩ ?_
            refine run_end (fn := f8) rfl (Nat.le_refl _) (by kernel_rfl) [] [.bool false] (e := []) (by kernel_rfl) trivial (fun w1 k1 h1 => ?_)
            exfalso
            omega
        | true =>
          have hp4 : ¬ ne = 0 := by simpa using hd4
          cases hd5 : (ne != 4) with
          | false =>
            have hp5 : ne = 4 := by simpa using hd5
            cases hd6 : (nv != 0) with
            | false =>
              have hp6 : nv = 0 := by simpa using hd6
              cases hd7 : (decide (nv < 0)) with
              | false =>
                have hp7 := of_decide_eq_false hd7
                cases hd8 : (decide ((m : Int) < nv)) with
                | false =>
                  have hp8 := of_decide_eq_false hd8
                  refine run_auto [(56, .bool true), (59, .bool false), (62, .bool false), (67, .bool false), (72, .bool false)] 38 [false] [] [4, 8, 9, 10, 11, 12, 13, 14] [0] (st' := ⟨[(4, pA b1), (8, .bool false), (9, iV (b : Int)), (10, iV ht), (11, iV (m : Int)), (12, iV nv), (13, iV ne), (14, iV (m : Int))], [(b1, aO #[.slice p.ba p.bs.length p.bc, iV p.near, iV p.last, .slice p.ta p.ts.length p.tc] 33)]⟩) (acc := [(.bool false, .bool false), (.bool (decide ((m : Int) < nv)), .bool false), (.bool (decide (nv < 0)), .bool false), (.bool (nv != 0), .bool false), (.bool (ne != 4), .bool false), (.bool (ne != 0), .bool true)]) (by kernel_rfl) (by kernel_rfl) ⟨rfl, (bo hd8), (bo hd7), (bo hd6), (bo hd5), (bo hd4), trivial⟩ ?_
                  refine run_auto [] 0 [] [] [4, 8, 9, 10, 11, 12, 13, 14] [0] (st' := ⟨[(4, pA b1), (8, .bool false), (9, iV (b : Int)), (10, iV ht), (11, iV (m : Int)), (12, iV nv), (13, iV ne), (14, iV (m : Int))], [(b1, aO #[.slice p.ba p.bs.length p.bc, iV p.near, iV p.last, .slice p.ta p.ts.length p.tc] 33)]⟩) (acc := []) (by kernel_rfl) (by kernel_rfl) trivial ?_
                  refine run_loop (S := fun (i : Nat) => ⟨[(4, pA b1), (8, .bool false), (9, iV (b : Int)), (10, iV ht), (11, iV (m : Int)), (12, iV nv), (13, iV ne), (14, iV ((m : Int) - (i : Int)))], [(b1, aO #[.slice p.ba p.bs.length p.bc, iV p.near, iV p.last, .slice p.ta p.ts.length p.tc] 33)]⟩) (fun i => i ≤ m + 1 ∧ ∀ j, j < i → latF p.n b ht m j = false) (fun i => m + 1 - i) (0) (by kernel_rfl) (⟨Nat.zero_le _, fun _ h => by cases h⟩) (by kernel_rfl) (fun i hI0 J0 hJ0 => ?_)
                  obtain ⟨hA1, hA2⟩ := hI0
                  cases hd9 : (decide (0 ≤ ((m : Int) - (i : Int)))) with
                  | false =>
                    have hp9 := of_decide_eq_false hd9
                    have hne4 := hY.miss (fun j hj => hA2 j (by omega))
                    cases hd10 : (ne == 4) with
                    | false =>
                      have hp10 : ¬ ne = 4 := by simpa using hd10
                      refine run_auto [(76, .bool false), (107, .bool false)] 17 [false] [] [8] [] (st' := ⟨[(8, .bool false)], []⟩) (acc := [(.bool (ne == 4), .bool false), (.bool false, .bool false), (.bool (decide (0 ≤ ((m : Int) - (i : Int)))), .bool false)]) (by kernel_rfl) (by kernel_rfl) ⟨(bo hd10), rfl, (bo hd9), trivial⟩ ?_
                      refine run_end (fn := f8) rfl (Nat.le_refl _) (by kernel_rfl) [] [.bool false] (e := []) (by kernel_rfl) trivial (fun w1 k1 h1 => ?_)
                      exfalso
                      omega
                    | true =>
                      have hp10 : ne = 4 := by simpa using hd10
                      refine run_auto [(76, .bool false), (107, .bool true)] 13 [false] [] [8, 108] [] (st' := ⟨[(8, .bool false), (108, .bool true)], []⟩) (acc := [(.bool (ne == 4), .bool true), (.bool false, .bool false), (.bool (decide (0 ≤ ((m : Int) - (i : Int)))), .bool false)]) (by kernel_rfl) (by kernel_rfl) ⟨(bo hd10), rfl, (bo hd9), trivial⟩ ?_
                      refine run_ret1 19 #[] (some 109) (.bool true) (by kernel_rfl) (fun w1 k1 h1 => alive_any w1) ?_
                      refine run_auto [] 3 [] [] [8] [] (st' := ⟨[(8, .bool true)], []⟩) (acc := []) (by kernel_rfl) (by kernel_rfl) trivial ?_
                      refine run_end (fn := f8) rfl (Nat.le_refl _) (by kernel_rfl) [] [.bool true] (e := []) (by kernel_rfl) trivial (fun w1 k1 h1 => ?_)
                      exact ⟨rfl, k1.keeps (fun _ h => h)⟩
                  | true =>
                    have hp9 := of_decide_eq_true hd9
                    have him : i ≤ m := by omega
                    obtain ⟨jv, hjv⟩ : ∃ x, (p.n.tch ((b : Int), (m : Int) - (i : Int), ht, ht)).judge b m = x := ⟨_, rfl⟩
                    have hlf := latF_is him hjv
                    have hokt := tch_ok hok (show p.n.ts.length ≤ 5 by show p.ts.length ≤ 5; omega) (t := ((b : Int), (m : Int) - (i : Int), ht, ht)) (by unfold vTc; rw [show inI (b : Int) 0 ((p.n.bs.length : Int) - 1) = true from decide_eq_true (by show 0 ≤ (b : Int) ∧ (b : Int) ≤ (p.bs.length : Int) - 1; omega), show inI ((m : Int) - (i : Int)) 0 p.n.last = true from decide_eq_true (by show 0 ≤ (m : Int) - (i : Int) ∧ (m : Int) - (i : Int) ≤ p.last; omega)]; exact decide_eq_true (by dsimp only; omega))
                    refine run_auto [(76, .bool true)] 11 [true] [] [4, 8, 9, 10, 11, 12, 13, 14] [0] (st' := ⟨[(4, pA b1), (8, .bool false), (9, iV (b : Int)), (10, iV ht), (11, iV (m : Int)), (12, iV nv), (13, iV ne), (14, iV ((m : Int) - (i : Int)))], [(b1, aO #[.slice p.ba p.bs.length p.bc, iV p.near, iV p.last, .slice p.ta p.ts.length p.tc] 33)]⟩) (acc := [(.bool true, .bool true), (.bool (decide (0 ≤ ((m : Int) - (i : Int)))), .bool true)]) (by kernel_rfl) (by kernel_rfl) ⟨rfl, (bo hd9), trivial⟩ ?_
                    refine drawW 15 [{ val := fun _ => .agg #[.slice p.ba p.bs.length p.bc, iV p.near, iV p.last, .slice p.ta p.ts.length p.tc], slots := [4], reads := [0] },
                                          { val := fun _ => iV (b : Int), slots := [9] },
                                          { val := fun _ => iV ((m : Int) - (i : Int)), slots := [14] },
                                          { val := fun _ => iV ht, slots := [10] },
                                          { val := fun _ => iV ht, slots := [10] },
                                          { val := fun _ => .agg #[iV (b : Int), iV ((m : Int) - (i : Int)), iV ht, iV ht], slots := [81, 82, 83, 84] },
                                          { names := [7, 1000007, 2000007], val := fun l => .agg #[.slice p.ba p.bs.length p.bc, iV p.near, iV p.last, .slice (some ⟨(l.getD 0 0), 0, none⟩) ((p.ts ++ [(((b : Int), (m : Int) - (i : Int), ht, ht) : Tc)]).length) (capW p.ts.length (l.getD 1 0) (l.getD 2 0))], upd := [(7, fun l => cO ((p.ts ++ [(((b : Int), (m : Int) - (i : Int), ht, ht) : Tc)]).flatMap tcR ++ spW p.ts.length (l.getD 1 0) (l.getD 2 0)) 61)], news := [7, 1000007, 2000007], slots := [80, 85] },
                                          { val := fun _ => iV (b : Int), slots := [9] },
                                          { val := fun _ => iV (m : Int), slots := [11] },
                                          { val := fun _ => .tuple #[iV jv, iV 0], slots := [86, 87, 88], reads := [7] },
                                          { val := fun _ => .tuple #[iV jv, iV 0], slots := [89] },
                                          { val := fun _ => iV jv, slots := [79] },
                                          { val := fun _ => iV 0, slots := [79] },
                                          { val := fun _ => iV jv, slots := [90] },
                                          { val := fun _ => iV 0, slots := [91] }] [[], [], [], [], [], [1, 2, 3, 4], [0, 1, 2, 3, 4, 5], [], [], [0, 1, 2, 3, 4, 5, 6, 7, 8], [0, 1, 2, 3, 4, 5, 6, 7, 8, 9], [0, 1, 2, 3, 4, 5, 6, 7, 8, 9, 10], [0, 1, 2, 3, 4, 5, 6, 7, 8, 9, 10], [0, 1, 2, 3, 4, 5, 6, 7, 8, 9, 10, 11], [0, 1, 2, 3, 4, 5, 6, 7, 8, 9, 10, 11, 12, 13]] (by kernel_rfl) (by kernel_rfl) (by kernel_rfl) (by kernel_rfl) [4, 8, 9, 10, 11, 12, 13, 14, 15, 16] [0] (by kernel_rfl)
                                          ⟨⟨⟨⟨⟨⟨⟨⟨⟨⟨⟨⟨⟨⟨⟨trivial,
                                          tri_quietW (fun β => []) [0] [0] (fun β => [(pA b1, pA b1)]) (by kernel_rfl) (fun β extra => by kernel_rfl) (by kernel_rfl) (fun β => ⟨rfl, trivial⟩)⟩,
                                          tri_quietW (fun β => []) [] [] (fun β => []) (by kernel_rfl) (fun β extra => by kernel_rfl) (by kernel_rfl) (fun β => trivial)⟩,
                                          tri_quietW (fun β => []) [] [] (fun β => []) (by kernel_rfl) (fun β extra => by kernel_rfl) (by kernel_rfl) (fun β => trivial)⟩,
                                          tri_quietW (fun β => []) [] [] (fun β => []) (by kernel_rfl) (fun β extra => by kernel_rfl) (by kernel_rfl) (fun β => trivial)⟩,
                                          tri_quietW (fun β => []) [] [] (fun β => []) (by kernel_rfl) (fun β extra => by kernel_rfl) (by kernel_rfl) (fun β => trivial)⟩,
                                          tri_callVW (fun β => .agg #[iV (b : Int), iV ((m : Int) - (i : Int)), iV ht, iV ht]) (fun β => by kernel_rfl) 29 (fun β => #[iV (b : Int), iV ((m : Int) - (i : Int)), iV ht, iV ht]) (by kernel_rfl) (fun β extra => by kernel_rfl) (fun β => by kernel_rfl) (fun β w1 k1 h1 => touch_any (b : Int) ((m : Int) - (i : Int)) ht ht w1)⟩,
                                          tri_nwn 7 1000007 2000007 rfl rfl (fun β nb_ nx_ ny_ => .agg #[.slice p.ba p.bs.length p.bc, iV p.near, iV p.last, sV nb_ ((p.ts ++ [(((b : Int), (m : Int) - (i : Int), ht, ht) : Tc)]).length) (capW p.ts.length nx_ ny_)]) (fun β nb_ nx_ ny_ => cO ((p.ts ++ [(((b : Int), (m : Int) - (i : Int), ht, ht) : Tc)]).flatMap tcR ++ spW p.ts.length nx_ ny_) 61) 28 (fun β => #[.agg #[.slice p.ba p.bs.length p.bc, iV p.near, iV p.last, .slice p.ta p.ts.length p.tc], .agg #[iV (b : Int), iV ((m : Int) - (i : Int)), iV ht, iV ht]]) (by kernel_rfl) (fun β extra => by kernel_rfl) (fun β nb_ nx_ ny_ => rfl) (fun β nb_ nx_ ny_ => by kernel_rfl) (fun β nb_ nx_ ny_ => by kernel_rfl) (fun β nb_ nx_ ny_ => by kernel_rfl) (fun β w1 k1 h1 => with_any p ((b : Int), (m : Int) - (i : Int), ht, ht) w1 (hp.keep (k1.keeps (fun _ h => h))) (by omega))⟩,
                                          tri_quietW (fun β => []) [] [] (fun β => []) (by kernel_rfl) (fun β extra => by kernel_rfl) (by kernel_rfl) (fun β => trivial)⟩,
                                          tri_quietW (fun β => []) [] [] (fun β => []) (by kernel_rfl) (fun β extra => by kernel_rfl) (by kernel_rfl) (fun β => trivial)⟩,
                                          tri_callVW (fun β => .tuple #[iV jv, iV 0]) (fun β => by kernel_rfl) 14 (fun β => #[.agg #[.slice p.ba p.bs.length p.bc, iV p.near, iV p.last, .slice (some ⟨(β 7), 0, none⟩) ((p.ts ++ [(((b : Int), (m : Int) - (i : Int), ht, ht) : Tc)]).length) (capW p.ts.length (β 1000007) (β 2000007))], iV (b : Int), iV (m : Int)]) (by kernel_rfl) (fun β extra => by kernel_rfl) (fun β => by kernel_rfl) (fun β w1 k1 h1 => (by have h := Settled_any (p.wit ((b : Int), (m : Int) - (i : Int), ht, ht) (β 7) (β 1000007) (β 2000007)) (b : Int) (m : Int) w1 (wit_in (hp.keep (k1.keeps (fun _ h => h))) (by omega) (h1 ((β 7), cO ((p.ts ++ [(((b : Int), (m : Int) - (i : Int), ht, ht) : Tc)]).flatMap tcR ++ spW p.ts.length (β 1000007) (β 2000007)) 61) (List.mem_of_getElem? (i := 0) (by kernel_rfl)))); rw [show setR (p.wit ((b : Int), (m : Int) - (i : Int), ht, ht) (β 7) (β 1000007) (β 2000007)).n (b : Int) (m : Int) = .inr jv from (set_is (s := p.n.tch ((b : Int), (m : Int) - (i : Int), ht, ht)) hokt hbl hm2).trans (congrArg _ hjv)] at h; exact h))⟩,
                                          tri_quietW (fun β => []) [] [] (fun β => []) (by kernel_rfl) (fun β extra => by kernel_rfl) (by kernel_rfl) (fun β => trivial)⟩,
                                          tri_quietW (fun β => []) [] [] (fun β => []) (by kernel_rfl) (fun β extra => by kernel_rfl) (by kernel_rfl) (fun β => trivial)⟩,
                                          tri_quietW (fun β => []) [] [] (fun β => []) (by kernel_rfl) (fun β extra => by kernel_rfl) (by kernel_rfl) (fun β => trivial)⟩,
                                          tri_quietW (fun β => []) [] [] (fun β => []) (by kernel_rfl) (fun β extra => by kernel_rfl) (by kernel_rfl) (fun β => trivial)⟩,
                                          tri_quietW (fun β => []) [] [] (fun β => []) (by kernel_rfl) (fun β extra => by kernel_rfl) (by kernel_rfl) (fun β => trivial)⟩
                                          (fun β => ⟨[(4, pA b1), (8, .bool false), (9, iV (b : Int)), (10, iV ht), (11, iV (m : Int)), (12, iV nv), (13, iV ne), (14, iV ((m : Int) - (i : Int))), (15, iV jv), (16, iV 0)], [(b1, aO #[.slice p.ba p.bs.length p.bc, iV p.near, iV p.last, .slice p.ta p.ts.length p.tc] 33)]⟩) (fun β => by kernel_rfl) (fun β3 => ?_)
                    cases hd10 : (jv == 2) with
                    | false =>
                      have hp10 : ¬ jv = 2 := by simpa using hd10
                      refine run_auto [(93, .bool false), (95, .bool false), (78, iV ((m : Int) - ((i + 1 : Nat) : Int)))] 21 [false, false] [] [4, 8, 9, 10, 11, 12, 13, 14] [0] (st' := ⟨[(4, pA b1), (8, .bool false), (9, iV (b : Int)), (10, iV ht), (11, iV (m : Int)), (12, iV nv), (13, iV ne), (14, iV ((m : Int) - ((i + 1 : Nat) : Int)))], [(b1, aO #[.slice p.ba p.bs.length p.bc, iV p.near, iV p.last, .slice p.ta p.ts.length p.tc] 33)]⟩) (acc := [(iV (IntKind.i64.wrap (((m : Int) - (i : Int)) - 1)), iV ((m : Int) - ((i + 1 : Nat) : Int))), (.bool false, .bool false), (.bool (jv == 2), .bool false), (.bool false, .bool false), (.bool false, .bool false)]) (by kernel_rfl) (by kernel_rfl) ⟨((wr (by omega) (by omega)).trans (io (by omega))), rfl, (bo hd10), rfl, rfl, trivial⟩ ?_
                      exact run_round (by kernel_rfl) (hJ0 (i + 1) (⟨by omega, fun j hj => (Nat.lt_succ_iff_lt_or_eq.1 hj).elim (hA2 j) (fun h => h ▸ hlf.trans hd10)⟩) (by omega))
                    | true =>
                      have hp10 : jv = 2 := by simpa using hd10
                      have hht := hY.hit him (hlf.trans hd10) hA2
                      cases hd11 : (ne == 0) with
                      | false =>
                        have hp11 : ¬ ne = 0 := by simpa using hd11
                        refine run_auto [(93, .bool false), (95, .bool true), (97, .bool false)] 28 [false, true] [] [4, 8, 9, 10, 11, 12, 13, 14] [0] (st' := ⟨[(4, pA b1), (8, .bool false), (9, iV (b : Int)), (10, iV ht), (11, iV (m : Int)), (12, iV nv), (13, iV ne), (14, iV ((m : Int) - (i : Int)))], [(b1, aO #[.slice p.ba p.bs.length p.bc, iV p.near, iV p.last, .slice p.ta p.ts.length p.tc] 33)]⟩) (acc := [(.bool (ne == 0), .bool false), (.bool true, .bool true), (.bool (jv == 2), .bool true), (.bool false, .bool false), (.bool false, .bool false)]) (by kernel_rfl) (by kernel_rfl) ⟨(bo hd11), rfl, (bo hd10), rfl, rfl, trivial⟩ ?_
                        refine run_end (fn := f8) rfl (Nat.le_refl _) (by kernel_rfl) [] [.bool false] (e := []) (by kernel_rfl) trivial (fun w1 k1 h1 => ?_)
                        exfalso
                        omega
                      | true =>
                        have hp11 : ne = 0 := by simpa using hd11
                        cases hd12 : (nv == ((m : Int) - (i : Int))) with
                        | false =>
                          have hp12 : ¬ nv = ((m : Int) - (i : Int)) := by simpa using hd12
                          refine run_auto [(93, .bool false), (95, .bool true), (97, .bool true), (101, .bool false)] 28 [false, true] [] [4, 8, 9, 10, 11, 12, 13, 14] [0] (st' := ⟨[(4, pA b1), (8, .bool false), (9, iV (b : Int)), (10, iV ht), (11, iV (m : Int)), (12, iV nv), (13, iV ne), (14, iV ((m : Int) - (i : Int)))], [(b1, aO #[.slice p.ba p.bs.length p.bc, iV p.near, iV p.last, .slice p.ta p.ts.length p.tc] 33)]⟩) (acc := [(.bool (nv == ((m : Int) - (i : Int))), .bool false), (.bool (ne == 0), .bool true), (.bool true, .bool true), (.bool (jv == 2), .bool true), (.bool false, .bool false), (.bool false, .bool false)]) (by kernel_rfl) (by kernel_rfl) ⟨(bo hd12), (bo hd11), rfl, (bo hd10), rfl, rfl, trivial⟩ ?_
                          refine run_end (fn := f8) rfl (Nat.le_refl _) (by kernel_rfl) [] [.bool false] (e := []) (by kernel_rfl) trivial (fun w1 k1 h1 => ?_)
                          exfalso
                          omega
                        | true =>
                          have hp12 : nv = ((m : Int) - (i : Int)) := by simpa using hd12
                          refine run_auto [(93, .bool false), (95, .bool true), (97, .bool true), (101, .bool true)] 24 [false, true] [] [4, 8, 9, 10, 11, 12, 13, 14, 103] [0] (st' := ⟨[(4, pA b1), (8, .bool false), (9, iV (b : Int)), (10, iV ht), (11, iV (m : Int)), (12, iV nv), (13, iV ne), (14, iV ((m : Int) - (i : Int))), (103, .bool true)], [(b1, aO #[.slice p.ba p.bs.length p.bc, iV p.near, iV p.last, .slice p.ta p.ts.length p.tc] 33)]⟩) (acc := [(.bool (nv == ((m : Int) - (i : Int))), .bool true), (.bool (ne == 0), .bool true), (.bool true, .bool true), (.bool (jv == 2), .bool true), (.bool false, .bool false), (.bool false, .bool false)]) (by kernel_rfl) (by kernel_rfl) ⟨(bo hd12), (bo hd11), rfl, (bo hd10), rfl, rfl, trivial⟩ ?_
                          refine run_ret1 19 #[] (some 104) (.bool true) (by kernel_rfl) (fun w1 k1 h1 => alive_any w1) ?_
                          refine run_auto [] 3 [] [] [4, 8, 9, 10, 11, 12, 13, 14] [0] (st' := ⟨[(4, pA b1), (8, .bool true), (9, iV (b : Int)), (10, iV ht), (11, iV (m : Int)), (12, iV nv), (13, iV ne), (14, iV ((m : Int) - (i : Int)))], [(b1, aO #[.slice p.ba p.bs.length p.bc, iV p.near, iV p.last, .slice p.ta p.ts.length p.tc] 33)]⟩) (acc := []) (by kernel_rfl) (by kernel_rfl) trivial ?_
                          refine run_end (fn := f8) rfl (Nat.le_refl _) (by kernel_rfl) [] [.bool true] (e := []) (by kernel_rfl) trivial (fun w1 k1 h1 => ?_)
                          exact ⟨rfl, k1.keeps (fun _ h => h)⟩
                | true =>
                  have hp8 := of_decide_eq_true hd8
                  refine run_auto [(56, .bool true), (59, .bool false), (62, .bool false), (67, .bool false), (72, .bool true)] 34 [true] [] [4, 8, 9, 10, 11, 12, 13] [0] (st' := ⟨[(4, pA b1), (8, .bool false), (9, iV (b : Int)), (10, iV ht), (11, iV (m : Int)), (12, iV nv), (13, iV ne)], [(b1, aO #[.slice p.ba p.bs.length p.bc, iV p.near, iV p.last, .slice p.ta p.ts.length p.tc] 33)]⟩) (acc := [(.bool true, .bool true), (.bool (decide ((m : Int) < nv)), .bool true), (.bool (decide (nv < 0)), .bool false), (.bool (nv != 0), .bool false), (.bool (ne != 4), .bool false), (.bool (ne != 0), .bool true)]) (by kernel_rfl) (by kernel_rfl) ⟨rfl, (bo hd8), (bo hd7), (bo hd6), (bo hd5), (bo hd4), trivial⟩ ?_
                  refine run_end (fn := f8) rfl (Nat.le_refl _) (by kernel_rfl) [] [.bool false] (e := []) (by kernel_rfl) trivial (fun w1 k1 h1 => ?_)
                  exfalso
                  omega
              | true =>
                have hp7 := of_decide_eq_true hd7
                refine run_auto [(56, .bool true), (59, .bool false), (62, .bool false), (67, .bool true)] 34 [true] [] [4, 8, 9, 10, 11, 12, 13] [0] (st' := ⟨[(4, pA b1), (8, .bool false), (9, iV (b : Int)), (10, iV ht), (11, iV (m : Int)), (12, iV nv), (13, iV ne)], [(b1, aO #[.slice p.ba p.bs.length p.bc, iV p.near, iV p.last, .slice p.ta p.ts.length p.tc] 33)]⟩) (acc := [(.bool true, .bool true), (.bool (decide (nv < 0)), .bool true), (.bool (nv != 0), .bool false), (.bool (ne != 4), .bool false), (.bool (ne != 0), .bool true)]) (by kernel_rfl) (by kernel_rfl) ⟨rfl, (bo hd7), (bo hd6), (bo hd5), (bo hd4), trivial⟩ ?_
                refine run_end (fn := f8) rfl (Nat.le_refl _) (by kernel_rfl) [] [.bool false] (e := []) (by kernel_rfl) trivial (fun w1 k1 h1 => ?_)
                exfalso
                omega
            | true =>
              have hp6 : ¬ nv = 0 := by simpa using hd6
              refine run_auto [(56, .bool true), (59, .bool false), (62, .bool true)] 34 [true] [] [4, 8, 9, 10, 11, 12, 13] [0] (st' := ⟨[(4, pA b1), (8, .bool false), (9, iV (b : Int)), (10, iV ht), (11, iV (m : Int)), (12, iV nv), (13, iV ne)], [(b1, aO #[.slice p.ba p.bs.length p.bc, iV p.near, iV p.last, .slice p.ta p.ts.length p.tc] 33)]⟩) (acc := [(.bool true, .bool true), (.bool (nv != 0), .bool true), (.bool (ne != 4), .bool false), (.bool (ne != 0), .bool true)]) (by kernel_rfl) (by kernel_rfl) ⟨rfl, (bo hd6), (bo hd5), (bo hd4), trivial⟩ ?_
              refine run_end (fn := f8) rfl (Nat.le_refl _) (by kernel_rfl) [] [.bool false] (e := []) (by kernel_rfl) trivial (fun w1 k1 h1 => ?_)
              exfalso
              omega
          | true =>
            have hp5 : ¬ ne = 4 := by simpa using hd5
            refine run_auto [(56, .bool true), (59, .bool true)] 34 [true] [] [4, 8, 9, 10, 11, 12, 13] [0] (st' := ⟨[(4, pA b1), (8, .bool false), (9, iV (b : Int)), (10, iV ht), (11, iV (m : Int)), (12, iV nv), (13, iV ne)], [(b1, aO #[.slice p.ba p.bs.length p.bc, iV p.near, iV p.last, .slice p.ta p.ts.length p.tc] 33)]⟩) (acc := [(.bool true, .bool true), (.bool (ne != 4), .bool true), (.bool (ne != 0), .bool true)]) (by kernel_rfl) (by kernel_rfl) ⟨rfl, (bo hd5), (bo hd4), trivial⟩ ?_
            refine run_end (fn := f8) rfl (Nat.le_refl _) (by kernel_rfl) [] [.bool false] (e := []) (by kernel_rfl) trivial (fun w1 k1 h1 => ?_)
            exfalso
            omega
      | true =>
        have hp3 := of_decide_eq_true hd3
        refine run_auto [(22, .bool false), (28, .bool true)] 12 [true] [0] [1, 2, 3, 4, 8] [0] (st' := ⟨[(1, .int .u8 y), (2, .int .u8 z), (3, .int .u8 v), (4, pA b1), (8, .bool false)], [(b1, aO #[.slice p.ba p.bs.length p.bc, iV p.near, iV p.last, .slice p.ta p.ts.length p.tc] 33)]⟩) (acc := [(.bool true, .bool true), (.bool (decide (6 ≤ (p.ts.length : Int))), .bool true), (pA b1, pA b1), (.bool false, .bool false)]) (by kernel_rfl) (by kernel_rfl) ⟨rfl, (bo hd3), rfl, rfl, trivial⟩ ?_
        refine run_ret1 19 #[] (some 30) (.bool true) (by kernel_rfl) (fun w1 k1 h1 => alive_any w1) ?_
        refine run_auto [] 2 [] [] [1, 2, 3, 4, 8] [0] (st' := ⟨[(1, .int .u8 y), (2, .int .u8 z), (3, .int .u8 v), (4, pA b1), (8, .bool true)], [(b1, aO #[.slice p.ba p.bs.length p.bc, iV p.near, iV p.last, .slice p.ta p.ts.length p.tc] 33)]⟩) (acc := []) (by kernel_rfl) (by kernel_rfl) trivial ?_
        refine run_end (fn := f8) rfl (Nat.le_refl _) (by kernel_rfl) [] [.bool true] (e := []) (by kernel_rfl) trivial (fun w1 k1 h1 => ?_)
        exact ⟨rfl, k1.keeps (fun _ h => h)⟩
  | true =>
    refine run_ret1 21 #[.agg #[.slice p.ba p.bs.length p.bc, iV p.near, iV p.last, .slice p.ta p.ts.length p.tc]] (some 18) (.bool true) (by kernel_rfl) (fun w1 k1 h1 => (by have h := long_any p w1; rw [hd1] at h; exact h)) ?_
    refine run_auto [] 15 [true] [] [1, 2, 3, 4, 8] [0] (st' := ⟨[(1, .int .u8 y), (2, .int .u8 z), (3, .int .u8 v), (4, pA b1), (8, .bool false)], [(b1, aO #[.slice p.ba p.bs.length p.bc, iV p.near, iV p.last, .slice p.ta p.ts.length p.tc] 33)]⟩) (acc := [(.bool true, .bool true)]) (by kernel_rfl) (by kernel_rfl) ⟨rfl, trivial⟩ ?_
    refine run_ret1 19 #[] (some 30) (.bool true) (by kernel_rfl) (fun w1 k1 h1 => alive_any w1) ?_
    refine run_auto [] 2 [] [] [1, 2, 3, 4, 8] [0] (st' := ⟨[(1, .int .u8 y), (2, .int .u8 z), (3, .int .u8 v), (4, pA b1), (8, .bool true)], [(b1, aO #[.slice p.ba p.bs.length p.bc, iV p.near, iV p.last, .slice p.ta p.ts.length p.tc] 33)]⟩) (acc := []) (by kernel_rfl) (by kernel_rfl) trivial ?_
    refine run_end (fn := f8) rfl (Nat.le_refl _) (by kernel_rfl) [] [.bool true] (e := []) (by kernel_rfl) trivial (fun w1 k1 h1 => ?_)
    exact ⟨rfl, k1.keeps (fun _ h => h)⟩

end Go.Proofs.Ytfjfkaaflghaiaa
