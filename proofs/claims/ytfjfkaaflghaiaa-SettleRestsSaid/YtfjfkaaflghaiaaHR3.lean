/-
  LAW: SettleRests, walked.
-/
import Derived.Test.YtfjfkaaflghaiaaHR4
namespace Go.Proofs.Ytfjfkaaflghaiaa
open Go.RowKit Go.Proofs.Try
attribute [local irreducible] Run wpK

set_option maxRecDepth 100000 in
set_option maxHeartbeats 4000000 in
theorem settleRests_any (p : Sb) (y : Int) (y1 : 0 ≤ y) (y2 : y ≤ 255) (w : World) (hp : p.In w) : Calls Try.prog 6 #[.agg #[.slice p.ba p.bs.length p.bc, .int .i64 p.near, .int .i64 p.last, .slice p.ta p.ts.length p.tc], .int .u8 y] w (RetB true w) := by
  have hlb := hp.lb
  have hlt0 := hp.lt
  simp only [maxLen] at hlb hlt0
  refine calls_run (fn := f6) (c := (f6.body).getD .skip) [.agg #[.slice p.ba p.bs.length p.bc, .int .i64 p.near, .int .i64 p.last, .slice p.ta p.ts.length p.tc], .int .u8 y] func6 (by kernel_rfl) (fun _ => False) [] (fun _ h => by cases h) (List.Pairwise.nil) 266 (by kernel_rfl) (by simp) ?_
  refine run_auto [] 2 [] [] [0, 1] [] (st' := ⟨[(0, .agg #[.slice p.ba p.bs.length p.bc, iV p.near, iV p.last, .slice p.ta p.ts.length p.tc]), (1, .int .u8 y)], []⟩) (acc := []) (by kernel_rfl) (by kernel_rfl) trivial ?_
  refine run_new (aO #[.slice p.ba p.bs.length p.bc, iV p.near, iV p.last, .slice p.ta p.ts.length p.tc] 33) (fun b1 => pA b1) (some 2) (fun _ => by kernel_rfl) (fun b1 hb1 => ?_)
  refine run_auto [] 6 [] [0] [1, 2, 4, 26] [0] (st' := ⟨[(1, .int .u8 y), (2, pA b1), (4, .bool false), (26, .agg #[.slice p.ba p.bs.length p.bc, iV p.near, iV p.last, .slice p.ta p.ts.length p.tc])], [(b1, aO #[.slice p.ba p.bs.length p.bc, iV p.near, iV p.last, .slice p.ta p.ts.length p.tc] 33)]⟩) (acc := [(pA b1, pA b1)]) (by kernel_rfl) (by kernel_rfl) ⟨rfl, trivial⟩ ?_
  cases hd1 : (lonB p) with
  | false =>
    refine run_ret1 21 #[.agg #[.slice p.ba p.bs.length p.bc, iV p.near, iV p.last, .slice p.ta p.ts.length p.tc]] (some 27) (.bool false) (by kernel_rfl) (fun w1 k1 h1 => (by have h := long_any p w1; rw [hd1] at h; exact h)) ?_
    refine run_auto [] 2 [] [0] [1, 2, 4, 28, 29] [0] (st' := ⟨[(1, .int .u8 y), (2, pA b1), (4, .bool false), (28, .bool false), (29, .agg #[.slice p.ba p.bs.length p.bc, iV p.near, iV p.last, .slice p.ta p.ts.length p.tc])], [(b1, aO #[.slice p.ba p.bs.length p.bc, iV p.near, iV p.last, .slice p.ta p.ts.length p.tc] 33)]⟩) (acc := [(pA b1, pA b1)]) (by kernel_rfl) (by kernel_rfl) ⟨rfl, trivial⟩ ?_
    cases hd2 : p.n.ok with
    | false =>
      refine run_ret1 22 #[.agg #[.slice p.ba p.bs.length p.bc, iV p.near, iV p.last, .slice p.ta p.ts.length p.tc]] (some 30) (.bool false) (by kernel_rfl) (fun w1 k1 h1 => (by have h := rsettle_any p w1 (hp.keep (k1.keeps (fun _ h => h))); rw [hd2] at h; exact h)) ?_
      refine run_auto [(31, .bool true)] 6 [true] [] [1, 2, 4] [0] (st' := ⟨[(1, .int .u8 y), (2, pA b1), (4, .bool false)], [(b1, aO #[.slice p.ba p.bs.length p.bc, iV p.near, iV p.last, .slice p.ta p.ts.length p.tc] 33)]⟩) (acc := [(.bool true, .bool true), (.bool true, .bool true)]) (by kernel_rfl) (by kernel_rfl) ⟨rfl, rfl, trivial⟩ ?_
      refine run_ret1 19 #[] (some 33) (.bool true) (by kernel_rfl) (fun w1 k1 h1 => alive_any w1) ?_
      refine run_auto [] 2 [] [] [1, 2, 4] [0] (st' := ⟨[(1, .int .u8 y), (2, pA b1), (4, .bool true)], [(b1, aO #[.slice p.ba p.bs.length p.bc, iV p.near, iV p.last, .slice p.ta p.ts.length p.tc] 33)]⟩) (acc := []) (by kernel_rfl) (by kernel_rfl) trivial ?_
      refine run_end (fn := f6) rfl (Nat.le_refl _) (by kernel_rfl) [] [.bool true] (e := []) (by kernel_rfl) trivial (fun w1 k1 h1 => ?_)
      exact ⟨rfl, k1.keeps (fun _ h => h)⟩
    | true =>
      have hok := hd2
      have hF := Sn.fine hok
      have hl1 := lastN_is hok
      have hl2 : 1 ≤ p.last ∧ p.last ≤ 60 := hl1
      have hNl : p.last = (p.n.N : Int) := hF.lastN
      have hn1 : 1 ≤ p.bs.length := hF.n1
      have hn4 : p.bs.length ≤ 4 := hF.n4
      have hnr : 0 ≤ p.near ∧ p.near ≤ 20 := hF.nr
      obtain ⟨b, hbq, hbm⟩ := emod_nat (x := y) (n := (p.bs.length : Int)) (by omega)
      have hbl : b < p.bs.length := by omega
      obtain ⟨Ls, hLs⟩ : ∃ x, p.n.rs b (p.n.N + 1) = x := ⟨_, rfl⟩
      have hRs : RsOk (fun m => p.n.set b m) (p.n.N + 1) Ls := by rw [← hLs]; exact rsP_ok _ _
      have hLl : Ls.length ≤ 61 := by have := rs_len p.n b (p.n.N + 1); rw [hLs] at this; omega
      obtain ⟨fv, hfv⟩ : ∃ x, inA (whenR p.n (b : Int)) = x := ⟨_, rfl⟩
      obtain ⟨fe, hfe⟩ : ∃ x, erA (whenR p.n (b : Int)) = x := ⟨_, rfl⟩
      have hWh := wh_is hok hbl hfv hfe
      have hwq := hWh.q
      obtain ⟨av, hav⟩ : ∃ x, inA (allR p.n) = x := ⟨_, rfl⟩
      obtain ⟨ae, hae⟩ : ∃ x, erA (allR p.n) = x := ⟨_, rfl⟩
      obtain ⟨hal1, hal2, hal3⟩ := all_is hok hav hae
      refine run_ret1 22 #[.agg #[.slice p.ba p.bs.length p.bc, iV p.near, iV p.last, .slice p.ta p.ts.length p.tc]] (some 30) (.bool true) (by kernel_rfl) (fun w1 k1 h1 => (by have h := rsettle_any p w1 (hp.keep (k1.keeps (fun _ h => h))); rw [hd2] at h; exact h)) ?_
      refine run_auto [(31, .bool false), (35, iV y)] 12 [false] [0] [2, 4, 35, 38] [0] (st' := ⟨[(2, pA b1), (4, .bool false), (35, iV y), (38, iV (p.bs.length : Int))], [(b1, aO #[.slice p.ba p.bs.length p.bc, iV p.near, iV p.last, .slice p.ta p.ts.length p.tc] 33)]⟩) (acc := [(pA b1, pA b1), (iV (IntKind.i64.wrap y), iV y), (.bool false, .bool false), (.bool false, .bool false)]) (by kernel_rfl) (by kernel_rfl) ⟨rfl, (wr (by omega) (by omega)), rfl, rfl, trivial⟩ ?_
      refine run_v (binOp .rem 3 (iV y) (iV (p.bs.length : Int)) >>= fun v => pure (Next.value v)) (some 39) (iV (b : Int)) (by kernel_rfl) (fun w1 k1 h1 => (by have h := rem_run (P := Try.prog) (w := w1) (t := 3) y (p.bs.length : Int) (by omega) (by omega); rw [hbq] at h; exact h)) ?_
      refine run_auto [] 6 [] [0] [2, 4, 5, 41, 42] [0] (st' := ⟨[(2, pA b1), (4, .bool false), (5, iV (b : Int)), (41, .agg #[.slice p.ba p.bs.length p.bc, iV p.near, iV p.last, .slice p.ta p.ts.length p.tc]), (42, iV (b : Int))], [(b1, aO #[.slice p.ba p.bs.length p.bc, iV p.near, iV p.last, .slice p.ta p.ts.length p.tc] 33)]⟩) (acc := [(pA b1, pA b1)]) (by kernel_rfl) (by kernel_rfl) ⟨rfl, trivial⟩ ?_
      cases hd3 : Ls.isEmpty with
      | false =>
        obtain ⟨t, htl⟩ : ∃ t, Ls.length = t + 1 := ⟨Ls.length - 1, by have := List.length_pos_iff.2 (show Ls ≠ [] by intro h; rw [h] at hd3; cases hd3); omega⟩
        have hlast := lastR_is hWh hRs htl
        have hbt := hRs.bd t (by omega)
        refine run_nwl 16 #[.agg #[.slice p.ba p.bs.length p.bc, iV p.near, iV p.last, .slice p.ta p.ts.length p.tc], iV (b : Int)] (some 43) (α := Nat × Nat × List Value) (fun x => .tuple #[.slice (some ⟨(x.1), 0, none⟩) Ls.length (x.2.1), iV 0]) (fun x => [((x.1), cO ((Ls).flatMap spR ++ (x.2.2)) 23)]) (fun x => Ls.length ≤ (x.2.1)) (by kernel_rfl) (fun x p hp => by simp only [List.mem_cons, List.not_mem_nil, or_false] at hp; rcases hp with rfl <;> rfl) (fun w1 k1 h1 => ((show Calls Try.prog 16 #[.agg #[.slice p.ba p.bs.length p.bc, iV p.near, iV p.last, .slice p.ta p.ts.length p.tc], iV (b : Int)] w1 (SlR (.inr Ls) w1) from by have h := Rests_any p (b : Int) w1 (hp.keep (k1.keeps (fun _ h => h))); rw [show restR p.n (b : Int) = .inr Ls from (rest_is hok hbl).trans (congrArg _ hLs)] at h; exact h).mono fun _ _ hh => hh.elim (fun hh => absurd (show Ls.isEmpty = true from hh.1) (by rw [hd3]; simp)) (fun hh => hh.2))) (fun x hI2 hn2 => ?_)
        obtain ⟨rg2, rc2, rsp2⟩ := x
        dsimp only at hI2 hn2
        have hrg2 := hn2 _ (List.mem_of_getElem? (i := 0) rfl)
        refine run_auto [] 10 [] [1] [2, 4, 5, 6, 7, 47, 48] [0, 1] (st' := ⟨[(2, pA b1), (4, .bool false), (5, iV (b : Int)), (6, sV rg2 Ls.length rc2), (7, iV 0), (47, .agg #[.slice p.ba p.bs.length p.bc, iV p.near, iV p.last, .slice p.ta p.ts.length p.tc]), (48, iV (b : Int))], [(rg2, cO ((Ls).flatMap spR ++ rsp2) 23), (b1, aO #[.slice p.ba p.bs.length p.bc, iV p.near, iV p.last, .slice p.ta p.ts.length p.tc] 33)]⟩) (acc := [(pA b1, pA b1)]) (by kernel_rfl) (by kernel_rfl) ⟨rfl, trivial⟩ ?_
        refine run_ret1 15 #[.agg #[.slice p.ba p.bs.length p.bc, iV p.near, iV p.last, .slice p.ta p.ts.length p.tc], iV (b : Int)] (some 49) (.tuple #[iV fv, iV fe]) (by kernel_rfl) (fun w1 k1 h1 => (by have h := When_any p (b : Int) w1 (hp.keep (k1.keeps (fun _ h => h))); rw [hfv, hfe] at h; exact h)) ?_
        refine run_auto [] 9 [] [1] [2, 4, 5, 6, 7, 8, 9, 53] [0, 1] (st' := ⟨[(2, pA b1), (4, .bool false), (5, iV (b : Int)), (6, sV rg2 Ls.length rc2), (7, iV 0), (8, iV fv), (9, iV fe), (53, .agg #[.slice p.ba p.bs.length p.bc, iV p.near, iV p.last, .slice p.ta p.ts.length p.tc])], [(rg2, cO ((Ls).flatMap spR ++ rsp2) 23), (b1, aO #[.slice p.ba p.bs.length p.bc, iV p.near, iV p.last, .slice p.ta p.ts.length p.tc] 33)]⟩) (acc := [(pA b1, pA b1)]) (by kernel_rfl) (by kernel_rfl) ⟨rfl, trivial⟩ ?_
        refine run_ret1 24 #[.agg #[.slice p.ba p.bs.length p.bc, iV p.near, iV p.last, .slice p.ta p.ts.length p.tc]] (some 54) (.tuple #[iV av, iV ae]) (by kernel_rfl) (fun w1 k1 h1 => (by have h := All_any p w1 (hp.keep (k1.keeps (fun _ h => h))); rw [hav, hae] at h; exact h)) ?_
        refine run_auto [] 8 [] [] [2, 4, 5, 6, 7, 8, 9, 10, 11] [0, 1] (st' := ⟨[(2, pA b1), (4, .bool false), (5, iV (b : Int)), (6, sV rg2 Ls.length rc2), (7, iV 0), (8, iV fv), (9, iV fe), (10, iV av), (11, iV ae)], [(rg2, cO ((Ls).flatMap spR ++ rsp2) 23), (b1, aO #[.slice p.ba p.bs.length p.bc, iV p.near, iV p.last, .slice p.ta p.ts.length p.tc] 33)]⟩) (acc := []) (by kernel_rfl) (by kernel_rfl) trivial ?_
        refine run_join (fun k => adv 29 [false] k) ⟨[(2, pA b1), (4, .bool false), (5, iV (b : Int)), (6, sV rg2 Ls.length rc2), (8, iV fv), (9, iV fe), (10, iV av), (11, iV ae)], [(rg2, cO ((Ls).flatMap spR ++ rsp2) 23), (b1, aO #[.slice p.ba p.bs.length p.bc, iV p.near, iV p.last, .slice p.ta p.ts.length p.tc] 33)]⟩ ?_ (fun hjoin7 => ?_)
        · skip
          refine run_auto [(85, iV (p.last + 1))] 10 [] [1] [2, 4, 5, 6, 8, 9, 10, 11, 85, 86] [0, 1] (st' := ⟨[(2, pA b1), (4, .bool false), (5, iV (b : Int)), (6, sV rg2 Ls.length rc2), (8, iV fv), (9, iV fe), (10, iV av), (11, iV ae), (85, iV (p.last + 1)), (86, iV 0)], [(rg2, cO ((Ls).flatMap spR ++ rsp2) 23), (b1, aO #[.slice p.ba p.bs.length p.bc, iV p.near, iV p.last, .slice p.ta p.ts.length p.tc] 33)]⟩) (acc := [(iV (IntKind.i64.wrap (p.last + 1)), iV (p.last + 1)), (pA b1, pA b1)]) (by kernel_rfl) (by kernel_rfl) ⟨(wr (by omega) (by omega)), rfl, trivial⟩ ?_
          refine run_auto [] 0 [] [] [2, 4, 5, 6, 8, 9, 10, 11, 85, 86] [0, 1] (st' := ⟨[(2, pA b1), (4, .bool false), (5, iV (b : Int)), (6, sV rg2 Ls.length rc2), (8, iV fv), (9, iV fe), (10, iV av), (11, iV ae), (85, iV (p.last + 1)), (86, iV 0)], [(rg2, cO ((Ls).flatMap spR ++ rsp2) 23), (b1, aO #[.slice p.ba p.bs.length p.bc, iV p.near, iV p.last, .slice p.ta p.ts.length p.tc] 33)]⟩) (acc := []) (by kernel_rfl) (by kernel_rfl) trivial ?_
          refine run_loop (S := fun (m : Nat) => ⟨[(2, pA b1), (4, .bool false), (5, iV (b : Int)), (6, sV rg2 Ls.length rc2), (8, iV fv), (9, iV fe), (10, iV av), (11, iV ae), (85, iV (p.last + 1)), (86, iV (m : Int))], [(rg2, cO ((Ls).flatMap spR ++ rsp2) 23), (b1, aO #[.slice p.ba p.bs.length p.bc, iV p.near, iV p.last, .slice p.ta p.ts.length p.tc] 33)]⟩) (fun m => m ≤ p.n.N + 1) (fun m => p.n.N + 1 - m) (0) (by kernel_rfl) (Nat.zero_le _) (by kernel_rfl) (fun m hI0 J0 hJ0 => ?_)
          have hmN := hI0
          cases hd4 : (decide ((m : Int) < (p.last + 1))) with
          | false =>
            have hp4 := of_decide_eq_false hd4
            refine run_auto [(87, .bool false), (200, iV (t : Int))] 16 [false] [] [2, 4, 6, 8, 9, 10, 11, 20] [0, 1] (st' := ⟨[(2, pA b1), (4, .bool false), (6, sV rg2 Ls.length rc2), (8, iV fv), (9, iV fe), (10, iV av), (11, iV ae), (20, iV (t : Int))], [(rg2, cO ((Ls).flatMap spR ++ rsp2) 23), (b1, aO #[.slice p.ba p.bs.length p.bc, iV p.near, iV p.last, .slice p.ta p.ts.length p.tc] 33)]⟩) (acc := [(iV (IntKind.i64.wrap ((Ls.length : Int) - 1)), iV (t : Int)), (.bool false, .bool false), (.bool (decide ((m : Int) < (p.last + 1))), .bool false)]) (by kernel_rfl) (by kernel_rfl) ⟨((wr (by omega) (by omega)).trans (io (by omega))), rfl, (bo hd4), trivial⟩ ?_
            cases hd5 : (fe == 0) with
            | false =>
              have hp5 : ¬ fe = 0 := by simpa using hd5
              cases hd6 : (decide (0 ≤ (t : Int))) with
              | false =>
                have hp6 := of_decide_eq_false hd6
                refine drawW 28 [{ val := fun _ => iV fe, slots := [9] },
                                  { val := fun _ => .bool false, slots := [201] },
                                  { val := fun _ => iV (t : Int), slots := [20] },
                                  { val := fun _ => .bool false, slots := [203] },
                                  { val := fun _ => .bool false, slots := [204] },
                                  { slots := [205] },
                                  { slots := [205] },
                                  { slots := [205] },
                                  { slots := [205] },
                                  { slots := [205] },
                                  { slots := [205] },
                                  { slots := [205] },
                                  { slots := [205] },
                                  { val := fun _ => .bool false, slots := [205, 213] },
                                  { val := fun _ => .bool false, slots := [202, 214] },
                                  { val := fun _ => .bool false, slots := [215] },
                                  { val := fun _ => iV fe, slots := [9, 216] },
                                  { val := fun _ => .bool false, slots := [216, 217] },
                                  { val := fun _ => .bool false, slots := [216, 218] },
                                  { slots := [219] },
                                  { slots := [219] },
                                  { slots := [219] },
                                  { slots := [219] },
                                  { slots := [219] },
                                  { slots := [219] },
                                  { slots := [219] },
                                  { val := fun _ => .bool false, slots := [216, 219, 226] },
                                  { val := fun _ => .bool false, slots := [216, 227] }] [[], [0], [], [2], [2, 3], [2, 3, 4], [2, 3, 4], [2, 3, 4, 5, 6], [2, 3, 4, 5, 6, 7], [2, 3, 4, 5, 6, 7, 8], [2, 3, 4], [2, 3, 4, 10], [2, 3, 4, 5, 6, 7, 8, 9, 10, 11], [2, 3, 4, 5, 6, 7, 8, 9, 10, 11, 12], [0, 1, 2, 3, 4, 5, 6, 7, 8, 9, 10, 11, 12, 13], [0, 1, 2, 3, 4, 5, 6, 7, 8, 9, 10, 11, 12, 13, 14], [0, 1, 2, 3, 4, 5, 6, 7, 8, 9, 10, 11, 12, 13, 14, 15], [0, 1, 2, 3, 4, 5, 6, 7, 8, 9, 10, 11, 12, 13, 14, 15, 16], [0, 1, 2, 3, 4, 5, 6, 7, 8, 9, 10, 11, 12, 13, 14, 15, 16, 17], [0, 1, 2, 3, 4, 5, 6, 7, 8, 9, 10, 11, 12, 13, 14, 15, 16, 17, 18], [0, 1, 2, 3, 4, 5, 6, 7, 8, 9, 10, 11, 12, 13, 14, 15, 16, 17, 18], [0, 1, 2, 3, 4, 5, 6, 7, 8, 9, 10, 11, 12, 13, 14, 15, 16, 17, 18, 19, 20], [0, 1, 2, 3, 4, 5, 6, 7, 8, 9, 10, 11, 12, 13, 14, 15, 16, 17, 18, 19, 20, 21], [0, 1, 2, 3, 4, 5, 6, 7, 8, 9, 10, 11, 12, 13, 14, 15, 16, 17, 18, 19, 20, 21, 22], [0, 1, 2, 3, 4, 5, 6, 7, 8, 9, 10, 11, 12, 13, 14, 15, 16, 17, 18], [0, 1, 2, 3, 4, 5, 6, 7, 8, 9, 10, 11, 12, 13, 14, 15, 16, 17, 18, 19, 20, 21, 22, 23, 24], [0, 1, 2, 3, 4, 5, 6, 7, 8, 9, 10, 11, 12, 13, 14, 15, 16, 17, 18, 19, 20, 21, 22, 23, 24, 25], [0, 1, 2, 3, 4, 5, 6, 7, 8, 9, 10, 11, 12, 13, 14, 15, 16, 17, 18, 19, 20, 21, 22, 23, 24, 25, 26]] (by kernel_rfl) (by kernel_rfl) (by kernel_rfl) (by kernel_rfl) [2, 4, 10, 11, 228] [1] (by kernel_rfl)
                                  ⟨⟨⟨⟨⟨⟨⟨⟨⟨⟨⟨⟨⟨⟨⟨⟨⟨⟨⟨⟨⟨⟨⟨⟨⟨⟨⟨⟨trivial,
                                  tri_quietW (fun β => []) [] [] (fun β => []) (by kernel_rfl) (fun β extra => by kernel_rfl) (by kernel_rfl) (fun β => trivial)⟩,
                                  tri_quietW (fun β => [(202, .bool false)]) [] [] (fun β => [(.bool (fe == 0), .bool false)]) (by kernel_rfl) (fun β extra => by kernel_rfl) (by kernel_rfl) (fun β => ⟨(bo hd5), trivial⟩)⟩,
                                  tri_quietW (fun β => []) [] [] (fun β => []) (by kernel_rfl) (fun β extra => by kernel_rfl) (by kernel_rfl) (fun β => trivial)⟩,
                                  tri_quietW (fun β => [(204, .bool false)]) [] [] (fun β => [(.bool (decide (0 ≤ (t : Int))), .bool false)]) (by kernel_rfl) (fun β extra => by kernel_rfl) (by kernel_rfl) (fun β => ⟨(bo hd6), trivial⟩)⟩,
                                  tri_quietW (fun β => []) [] [] (fun β => []) (by kernel_rfl) (fun β extra => by kernel_rfl) (by kernel_rfl) (fun β => trivial)⟩,
                                  tri_quietW (fun β => []) [] [] (fun β => []) (by kernel_rfl) (fun β extra => by kernel_rfl) (by kernel_rfl) (fun β => trivial)⟩,
                                  tri_quietW (fun β => []) [] [] (fun β => []) (by kernel_rfl) (fun β extra => by kernel_rfl) (by kernel_rfl) (fun β => trivial)⟩,
                                  tri_quietW (fun β => []) [] [] (fun β => []) (by kernel_rfl) (fun β extra => by kernel_rfl) (by kernel_rfl) (fun β => trivial)⟩,
                                  tri_quietW (fun β => []) [] [] (fun β => []) (by kernel_rfl) (fun β extra => by kernel_rfl) (by kernel_rfl) (fun β => trivial)⟩,
                                  tri_quietW (fun β => []) [] [] (fun β => []) (by kernel_rfl) (fun β extra => by kernel_rfl) (by kernel_rfl) (fun β => trivial)⟩,
                                  tri_quietW (fun β => []) [] [] (fun β => []) (by kernel_rfl) (fun β extra => by kernel_rfl) (by kernel_rfl) (fun β => trivial)⟩,
                                  tri_quietW (fun β => []) [] [] (fun β => []) (by kernel_rfl) (fun β extra => by kernel_rfl) (by kernel_rfl) (fun β => trivial)⟩,
                                  tri_quietW (fun β => []) [] [] (fun β => []) (by kernel_rfl) (fun β extra => by kernel_rfl) (by kernel_rfl) (fun β => trivial)⟩,
                                  tri_quietW (fun β => []) [] [] (fun β => []) (by kernel_rfl) (fun β extra => by kernel_rfl) (by kernel_rfl) (fun β => trivial)⟩,
                                  tri_quietW (fun β => [(215, .bool false)]) [] [] (fun β => [(.bool false, .bool false)]) (by kernel_rfl) (fun β extra => by kernel_rfl) (by kernel_rfl) (fun β => ⟨rfl, trivial⟩)⟩,
                                  tri_quietW (fun β => []) [] [] (fun β => []) (by kernel_rfl) (fun β extra => by kernel_rfl) (by kernel_rfl) (fun β => trivial)⟩,
                                  tri_quietW (fun β => []) [] [] (fun β => []) (by kernel_rfl) (fun β extra => by kernel_rfl) (by kernel_rfl) (fun β => trivial)⟩,
                                  tri_quietW (fun β => [(218, .bool false)]) [] [] (fun β => [(.bool (fe == 0), .bool false)]) (by kernel_rfl) (fun β extra => by kernel_rfl) (by kernel_rfl) (fun β => ⟨(bo hd5), trivial⟩)⟩,
                                  tri_quietW (fun β => []) [] [] (fun β => []) (by kernel_rfl) (fun β extra => by kernel_rfl) (by kernel_rfl) (fun β => trivial)⟩,
                                  tri_quietW (fun β => []) [] [] (fun β => []) (by kernel_rfl) (fun β extra => by kernel_rfl) (by kernel_rfl) (fun β => trivial)⟩,
                                  tri_quietW (fun β => []) [] [] (fun β => []) (by kernel_rfl) (fun β extra => by kernel_rfl) (by kernel_rfl) (fun β => trivial)⟩,
                                  tri_quietW (fun β => []) [] [] (fun β => []) (by kernel_rfl) (fun β extra => by kernel_rfl) (by kernel_rfl) (fun β => trivial)⟩,
                                  tri_quietW (fun β => []) [] [] (fun β => []) (by kernel_rfl) (fun β extra => by kernel_rfl) (by kernel_rfl) (fun β => trivial)⟩,
                                  tri_quietW (fun β => []) [] [] (fun β => []) (by kernel_rfl) (fun β extra => by kernel_rfl) (by kernel_rfl) (fun β => trivial)⟩,
                                  tri_quietW (fun β => []) [] [] (fun β => []) (by kernel_rfl) (fun β extra => by kernel_rfl) (by kernel_rfl) (fun β => trivial)⟩,
                                  tri_quietW (fun β => []) [] [] (fun β => []) (by kernel_rfl) (fun β extra => by kernel_rfl) (by kernel_rfl) (fun β => trivial)⟩,
                                  tri_quietW (fun β => []) [] [] (fun β => []) (by kernel_rfl) (fun β extra => by kernel_rfl) (by kernel_rfl) (fun β => trivial)⟩,
                                  tri_quietW (fun β => []) [] [] (fun β => []) (by kernel_rfl) (fun β extra => by kernel_rfl) (by kernel_rfl) (fun β => trivial)⟩
                                  (fun β => ⟨[(2, pA b1), (4, .bool false), (10, iV av), (11, iV ae), (228, .bool false)], [(b1, aO #[.slice p.ba p.bs.length p.bc, iV p.near, iV p.last, .slice p.ta p.ts.length p.tc] 33)]⟩) (fun β => by kernel_rfl) (fun β3 => ?_)
                refine run_auto [] 3 [false] [] [2, 10, 11] [0] (st' := ⟨[(2, pA b1), (10, iV av), (11, iV ae)], [(b1, aO #[.slice p.ba p.bs.length p.bc, iV p.near, iV p.last, .slice p.ta p.ts.length p.tc] 33)]⟩) (acc := [(.bool false, .bool false)]) (by kernel_rfl) (by kernel_rfl) ⟨rfl, trivial⟩ ?_
                exact run_eqK (by kernel_rfl) (rests30 p b1 av ae w hp hok hav hae)
              | true =>
                have hp6 := of_decide_eq_true hd6
                cases hd7 : ((elS Ls t).2 == p.last) with
                | false =>
                  have hp7 : ¬ (elS Ls t).2 = p.last := by simpa using hd7
                  refine drawW 28 [{ val := fun _ => iV fe, slots := [9] },
                                      { val := fun _ => .bool false, slots := [201] },
                                      { val := fun _ => iV (t : Int), slots := [20] },
                                      { val := fun _ => .bool true, slots := [203] },
                                      { val := fun _ => .bool true, slots := [204] },
                                      { val := fun _ => sV rg2 Ls.length rc2, slots := [6, 205] },
                                      { val := fun _ => iV (t : Int), slots := [20, 205] },
                                      { val := fun _ => .pointer (some ⟨rg2, t * 2, none⟩), slots := [205, 206, 207] },
                                      { val := fun _ => .pointer (some ⟨rg2, t * 2 + 1, none⟩), slots := [205, 208] },
                                      { val := fun _ => iV (elS Ls t).2, slots := [205, 209], reads := [0] },
                                      { val := fun _ => .pointer (some ⟨b1, 2, none⟩), slots := [2, 205] },
                                      { val := fun _ => iV p.last, slots := [205, 211], reads := [1] },
                                      { val := fun _ => .bool false, slots := [205, 210, 212] },
                                      { val := fun _ => .bool false, slots := [205, 213] },
                                      { val := fun _ => .bool false, slots := [202, 214] },
                                      { val := fun _ => .bool false, slots := [215] },
                                      { val := fun _ => iV fe, slots := [9, 216] },
                                      { val := fun _ => .bool false, slots := [216, 217] },
                                      { val := fun _ => .bool false, slots := [216, 218] },
                                      { slots := [219] },
                                      { slots := [219] },
                                      { slots := [219] },
                                      { slots := [219] },
                                      { slots := [219] },
                                      { slots := [219] },
                                      { slots := [219] },
                                      { val := fun _ => .bool false, slots := [216, 219, 226] },
                                      { val := fun _ => .bool false, slots := [216, 227] }] [[], [0], [], [2], [2, 3], [2, 3, 4], [2, 3, 4], [2, 3, 4, 5, 6], [2, 3, 4, 5, 6, 7], [2, 3, 4, 5, 6, 7, 8], [2, 3, 4], [2, 3, 4, 10], [2, 3, 4, 5, 6, 7, 8, 9, 10, 11], [2, 3, 4, 5, 6, 7, 8, 9, 10, 11, 12], [0, 1, 2, 3, 4, 5, 6, 7, 8, 9, 10, 11, 12, 13], [0, 1, 2, 3, 4, 5, 6, 7, 8, 9, 10, 11, 12, 13, 14], [0, 1, 2, 3, 4, 5, 6, 7, 8, 9, 10, 11, 12, 13, 14, 15], [0, 1, 2, 3, 4, 5, 6, 7, 8, 9, 10, 11, 12, 13, 14, 15, 16], [0, 1, 2, 3, 4, 5, 6, 7, 8, 9, 10, 11, 12, 13, 14, 15, 16, 17], [0, 1, 2, 3, 4, 5, 6, 7, 8, 9, 10, 11, 12, 13, 14, 15, 16, 17, 18], [0, 1, 2, 3, 4, 5, 6, 7, 8, 9, 10, 11, 12, 13, 14, 15, 16, 17, 18], [0, 1, 2, 3, 4, 5, 6, 7, 8, 9, 10, 11, 12, 13, 14, 15, 16, 17, 18, 19, 20], [0, 1, 2, 3, 4, 5, 6, 7, 8, 9, 10, 11, 12, 13, 14, 15, 16, 17, 18, 19, 20, 21], [0, 1, 2, 3, 4, 5, 6, 7, 8, 9, 10, 11, 12, 13, 14, 15, 16, 17, 18, 19, 20, 21, 22], [0, 1, 2, 3, 4, 5, 6, 7, 8, 9, 10, 11, 12, 13, 14, 15, 16, 17, 18], [0, 1, 2, 3, 4, 5, 6, 7, 8, 9, 10, 11, 12, 13, 14, 15, 16, 17, 18, 19, 20, 21, 22, 23, 24], [0, 1, 2, 3, 4, 5, 6, 7, 8, 9, 10, 11, 12, 13, 14, 15, 16, 17, 18, 19, 20, 21, 22, 23, 24, 25], [0, 1, 2, 3, 4, 5, 6, 7, 8, 9, 10, 11, 12, 13, 14, 15, 16, 17, 18, 19, 20, 21, 22, 23, 24, 25, 26]] (by kernel_rfl) (by kernel_rfl) (by kernel_rfl) (by kernel_rfl) [2, 4, 10, 11, 228] [1] (by kernel_rfl)
                                      ⟨⟨⟨⟨⟨⟨⟨⟨⟨⟨⟨⟨⟨⟨⟨⟨⟨⟨⟨⟨⟨⟨⟨⟨⟨⟨⟨⟨trivial,
                                      tri_quietW (fun β => []) [] [] (fun β => []) (by kernel_rfl) (fun β extra => by kernel_rfl) (by kernel_rfl) (fun β => trivial)⟩,
                                      tri_quietW (fun β => [(202, .bool false)]) [] [] (fun β => [(.bool (fe == 0), .bool false)]) (by kernel_rfl) (fun β extra => by kernel_rfl) (by kernel_rfl) (fun β => ⟨(bo hd5), trivial⟩)⟩,
                                      tri_quietW (fun β => []) [] [] (fun β => []) (by kernel_rfl) (fun β extra => by kernel_rfl) (by kernel_rfl) (fun β => trivial)⟩,
                                      tri_quietW (fun β => [(204, .bool true)]) [] [] (fun β => [(.bool (decide (0 ≤ (t : Int))), .bool true)]) (by kernel_rfl) (fun β extra => by kernel_rfl) (by kernel_rfl) (fun β => ⟨(bo hd6), trivial⟩)⟩,
                                      tri_quietW (fun β => []) [] [] (fun β => []) (by kernel_rfl) (fun β extra => by kernel_rfl) (by kernel_rfl) (fun β => trivial)⟩,
                                      tri_quietW (fun β => []) [] [] (fun β => []) (by kernel_rfl) (fun β extra => by kernel_rfl) (by kernel_rfl) (fun β => trivial)⟩,
                                      tri_quietW (fun β => []) [] [] (fun β => []) (by kernel_rfl) (fun β extra => by kernel_rfl) (by kernel_rfl) (fun β => trivial)⟩,
                                      tri_vVW (fun β => .pointer (some ⟨rg2, t * 2, none⟩)) (fun β => by kernel_rfl) (fun β => (Instr.indexAt 38 (sV rg2 Ls.length rc2) (iV (t : Int)) >>= fun v => pure (Next.value v))) (by kernel_rfl) (fun β extra => by kernel_rfl) (fun β => by kernel_rfl) (fun β w1 k1 h1 => idx_off (e := 23) (n := 2) (by kernel_rfl) (by kernel_rfl) rg2 (0) Ls.length rc2 .i64 t (by omega) (t * 2) (by omega) w1)⟩,
                                      tri_quietW (fun β => []) [] [] (fun β => []) (by kernel_rfl) (fun β extra => by kernel_rfl) (by kernel_rfl) (fun β => trivial)⟩,
                                      tri_vVW (fun β => iV (elS Ls t).2) (fun β => by kernel_rfl) (fun β => (Instr.loadAt 3 (.pointer (some ⟨rg2, t * 2 + 1, none⟩)) >>= fun v => pure (Next.value v))) (by kernel_rfl) (fun β extra => by kernel_rfl) (fun β => by kernel_rfl) (fun β w1 k1 h1 => load_own (e := 23) (fr := (0, 0)) (c := (Ls).flatMap spR ++ rsp2) h1 (List.mem_of_getElem? (i := 0) (by kernel_rfl)) (flat_loadF (c := spR) (n := 2) spR_len (by kernel_rfl) (i := t) (k := 1) (by first | omega | (simp; omega)) (by rw [spR_at (by first | omega | (simp; omega))]; rfl) (by omega)))⟩,
                                      tri_quietW (fun β => []) [] [] (fun β => []) (by kernel_rfl) (fun β extra => by kernel_rfl) (by kernel_rfl) (fun β => trivial)⟩,
                                      tri_quietW (fun β => []) [0] [0] (fun β => [(pA b1, pA b1)]) (by kernel_rfl) (fun β extra => by kernel_rfl) (by kernel_rfl) (fun β => ⟨rfl, trivial⟩)⟩,
                                      tri_quietW (fun β => [(213, .bool false)]) [] [] (fun β => [(.bool ((elS Ls t).2 == p.last), .bool false)]) (by kernel_rfl) (fun β extra => by kernel_rfl) (by kernel_rfl) (fun β => ⟨(bo hd7), trivial⟩)⟩,
                                      tri_quietW (fun β => []) [] [] (fun β => []) (by kernel_rfl) (fun β extra => by kernel_rfl) (by kernel_rfl) (fun β => trivial)⟩,
                                      tri_quietW (fun β => [(215, .bool false)]) [] [] (fun β => [(.bool false, .bool false)]) (by kernel_rfl) (fun β extra => by kernel_rfl) (by kernel_rfl) (fun β => ⟨rfl, trivial⟩)⟩,
                                      tri_quietW (fun β => []) [] [] (fun β => []) (by kernel_rfl) (fun β extra => by kernel_rfl) (by kernel_rfl) (fun β => trivial)⟩,
                                      tri_quietW (fun β => []) [] [] (fun β => []) (by kernel_rfl) (fun β extra => by kernel_rfl) (by kernel_rfl) (fun β => trivial)⟩,
                                      tri_quietW (fun β => [(218, .bool false)]) [] [] (fun β => [(.bool (fe == 0), .bool false)]) (by kernel_rfl) (fun β extra => by kernel_rfl) (by kernel_rfl) (fun β => ⟨(bo hd5), trivial⟩)⟩,
                                      tri_quietW (fun β => []) [] [] (fun β => []) (by kernel_rfl) (fun β extra => by kernel_rfl) (by kernel_rfl) (fun β => trivial)⟩,
                                      tri_quietW (fun β => []) [] [] (fun β => []) (by kernel_rfl) (fun β extra => by kernel_rfl) (by kernel_rfl) (fun β => trivial)⟩,
                                      tri_quietW (fun β => []) [] [] (fun β => []) (by kernel_rfl) (fun β extra => by kernel_rfl) (by kernel_rfl) (fun β => trivial)⟩,
                                      tri_quietW (fun β => []) [] [] (fun β => []) (by kernel_rfl) (fun β extra => by kernel_rfl) (by kernel_rfl) (fun β => trivial)⟩,
                                      tri_quietW (fun β => []) [] [] (fun β => []) (by kernel_rfl) (fun β extra => by kernel_rfl) (by kernel_rfl) (fun β => trivial)⟩,
                                      tri_quietW (fun β => []) [] [] (fun β => []) (by kernel_rfl) (fun β extra => by kernel_rfl) (by kernel_rfl) (fun β => trivial)⟩,
                                      tri_quietW (fun β => []) [] [] (fun β => []) (by kernel_rfl) (fun β extra => by kernel_rfl) (by kernel_rfl) (fun β => trivial)⟩,
                                      tri_quietW (fun β => []) [] [] (fun β => []) (by kernel_rfl) (fun β extra => by kernel_rfl) (by kernel_rfl) (fun β => trivial)⟩,
                                      tri_quietW (fun β => []) [] [] (fun β => []) (by kernel_rfl) (fun β extra => by kernel_rfl) (by kernel_rfl) (fun β => trivial)⟩,
                                      tri_quietW (fun β => []) [] [] (fun β => []) (by kernel_rfl) (fun β extra => by kernel_rfl) (by kernel_rfl) (fun β => trivial)⟩
                                      (fun β => ⟨[(2, pA b1), (4, .bool false), (10, iV av), (11, iV ae), (228, .bool false)], [(b1, aO #[.slice p.ba p.bs.length p.bc, iV p.near, iV p.last, .slice p.ta p.ts.length p.tc] 33)]⟩) (fun β => by kernel_rfl) (fun β3 => ?_)
                  refine run_auto [] 3 [false] [] [2, 10, 11] [0] (st' := ⟨[(2, pA b1), (10, iV av), (11, iV ae)], [(b1, aO #[.slice p.ba p.bs.length p.bc, iV p.near, iV p.last, .slice p.ta p.ts.length p.tc] 33)]⟩) (acc := [(.bool false, .bool false)]) (by kernel_rfl) (by kernel_rfl) ⟨rfl, trivial⟩ ?_
                  exact run_eqK (by kernel_rfl) (rests30 p b1 av ae w hp hok hav hae)
                | true =>
                  have hp7 : (elS Ls t).2 = p.last := by simpa using hd7
                  refine drawW 28 [{ val := fun _ => iV fe, slots := [9] },
                                      { val := fun _ => .bool false, slots := [201] },
                                      { val := fun _ => iV (t : Int), slots := [20] },
                                      { val := fun _ => .bool true, slots := [203] },
                                      { val := fun _ => .bool true, slots := [204] },
                                      { val := fun _ => sV rg2 Ls.length rc2, slots := [6, 205] },
                                      { val := fun _ => iV (t : Int), slots := [20, 205] },
                                      { val := fun _ => .pointer (some ⟨rg2, t * 2, none⟩), slots := [205, 206, 207] },
                                      { val := fun _ => .pointer (some ⟨rg2, t * 2 + 1, none⟩), slots := [205, 208] },
                                      { val := fun _ => iV (elS Ls t).2, slots := [205, 209], reads := [0] },
                                      { val := fun _ => .pointer (some ⟨b1, 2, none⟩), slots := [2, 205] },
                                      { val := fun _ => iV p.last, slots := [205, 211], reads := [1] },
                                      { val := fun _ => .bool true, slots := [205, 210, 212] },
                                      { val := fun _ => .bool true, slots := [205, 213] },
                                      { val := fun _ => .bool true, slots := [202, 214] },
                                      { val := fun _ => .bool true, slots := [215] },
                                      { slots := [216] },
                                      { slots := [216] },
                                      { slots := [216] },
                                      { slots := [219] },
                                      { slots := [219] },
                                      { slots := [219] },
                                      { slots := [219] },
                                      { slots := [219] },
                                      { slots := [219] },
                                      { slots := [219] },
                                      { slots := [216] },
                                      { val := fun _ => .bool true, slots := [216, 227] }] [[], [0], [], [2], [2, 3], [2, 3, 4], [2, 3, 4], [2, 3, 4, 5, 6], [2, 3, 4, 5, 6, 7], [2, 3, 4, 5, 6, 7, 8], [2, 3, 4], [2, 3, 4, 10], [2, 3, 4, 5, 6, 7, 8, 9, 10, 11], [2, 3, 4, 5, 6, 7, 8, 9, 10, 11, 12], [0, 1, 2, 3, 4, 5, 6, 7, 8, 9, 10, 11, 12, 13], [0, 1, 2, 3, 4, 5, 6, 7, 8, 9, 10, 11, 12, 13, 14], [0, 1, 2, 3, 4, 5, 6, 7, 8, 9, 10, 11, 12, 13, 14, 15], [0, 1, 2, 3, 4, 5, 6, 7, 8, 9, 10, 11, 12, 13, 14, 15, 16], [0, 1, 2, 3, 4, 5, 6, 7, 8, 9, 10, 11, 12, 13, 14, 15, 16, 17], [0, 1, 2, 3, 4, 5, 6, 7, 8, 9, 10, 11, 12, 13, 14, 15, 16, 17, 18], [0, 1, 2, 3, 4, 5, 6, 7, 8, 9, 10, 11, 12, 13, 14, 15, 16, 17, 18], [0, 1, 2, 3, 4, 5, 6, 7, 8, 9, 10, 11, 12, 13, 14, 15, 16, 17, 18, 19, 20], [0, 1, 2, 3, 4, 5, 6, 7, 8, 9, 10, 11, 12, 13, 14, 15, 16, 17, 18, 19, 20, 21], [0, 1, 2, 3, 4, 5, 6, 7, 8, 9, 10, 11, 12, 13, 14, 15, 16, 17, 18, 19, 20, 21, 22], [0, 1, 2, 3, 4, 5, 6, 7, 8, 9, 10, 11, 12, 13, 14, 15, 16, 17, 18], [0, 1, 2, 3, 4, 5, 6, 7, 8, 9, 10, 11, 12, 13, 14, 15, 16, 17, 18, 19, 20, 21, 22, 23, 24], [0, 1, 2, 3, 4, 5, 6, 7, 8, 9, 10, 11, 12, 13, 14, 15, 16, 17, 18, 19, 20, 21, 22, 23, 24, 25], [0, 1, 2, 3, 4, 5, 6, 7, 8, 9, 10, 11, 12, 13, 14, 15, 16, 17, 18, 19, 20, 21, 22, 23, 24, 25, 26]] (by kernel_rfl) (by kernel_rfl) (by kernel_rfl) (by kernel_rfl) [2, 4, 10, 11, 228] [1] (by kernel_rfl)
                                      ⟨⟨⟨⟨⟨⟨⟨⟨⟨⟨⟨⟨⟨⟨⟨⟨⟨⟨⟨⟨⟨⟨⟨⟨⟨⟨⟨⟨trivial,
                                      tri_quietW (fun β => []) [] [] (fun β => []) (by kernel_rfl) (fun β extra => by kernel_rfl) (by kernel_rfl) (fun β => trivial)⟩,
                                      tri_quietW (fun β => [(202, .bool false)]) [] [] (fun β => [(.bool (fe == 0), .bool false)]) (by kernel_rfl) (fun β extra => by kernel_rfl) (by kernel_rfl) (fun β => ⟨(bo hd5), trivial⟩)⟩,
                                      tri_quietW (fun β => []) [] [] (fun β => []) (by kernel_rfl) (fun β extra => by kernel_rfl) (by kernel_rfl) (fun β => trivial)⟩,
                                      tri_quietW (fun β => [(204, .bool true)]) [] [] (fun β => [(.bool (decide (0 ≤ (t : Int))), .bool true)]) (by kernel_rfl) (fun β extra => by kernel_rfl) (by kernel_rfl) (fun β => ⟨(bo hd6), trivial⟩)⟩,
                                      tri_quietW (fun β => []) [] [] (fun β => []) (by kernel_rfl) (fun β extra => by kernel_rfl) (by kernel_rfl) (fun β => trivial)⟩,
                                      tri_quietW (fun β => []) [] [] (fun β => []) (by kernel_rfl) (fun β extra => by kernel_rfl) (by kernel_rfl) (fun β => trivial)⟩,
                                      tri_quietW (fun β => []) [] [] (fun β => []) (by kernel_rfl) (fun β extra => by kernel_rfl) (by kernel_rfl) (fun β => trivial)⟩,
                                      tri_vVW (fun β => .pointer (some ⟨rg2, t * 2, none⟩)) (fun β => by kernel_rfl) (fun β => (Instr.indexAt 38 (sV rg2 Ls.length rc2) (iV (t : Int)) >>= fun v => pure (Next.value v))) (by kernel_rfl) (fun β extra => by kernel_rfl) (fun β => by kernel_rfl) (fun β w1 k1 h1 => idx_off (e := 23) (n := 2) (by kernel_rfl) (by kernel_rfl) rg2 (0) Ls.length rc2 .i64 t (by omega) (t * 2) (by omega) w1)⟩,
                                      tri_quietW (fun β => []) [] [] (fun β => []) (by kernel_rfl) (fun β extra => by kernel_rfl) (by kernel_rfl) (fun β => trivial)⟩,
                                      tri_vVW (fun β => iV (elS Ls t).2) (fun β => by kernel_rfl) (fun β => (Instr.loadAt 3 (.pointer (some ⟨rg2, t * 2 + 1, none⟩)) >>= fun v => pure (Next.value v))) (by kernel_rfl) (fun β extra => by kernel_rfl) (fun β => by kernel_rfl) (fun β w1 k1 h1 => load_own (e := 23) (fr := (0, 0)) (c := (Ls).flatMap spR ++ rsp2) h1 (List.mem_of_getElem? (i := 0) (by kernel_rfl)) (flat_loadF (c := spR) (n := 2) spR_len (by kernel_rfl) (i := t) (k := 1) (by first | omega | (simp; omega)) (by rw [spR_at (by first | omega | (simp; omega))]; rfl) (by omega)))⟩,
                                      tri_quietW (fun β => []) [] [] (fun β => []) (by kernel_rfl) (fun β extra => by kernel_rfl) (by kernel_rfl) (fun β => trivial)⟩,
                                      tri_quietW (fun β => []) [0] [0] (fun β => [(pA b1, pA b1)]) (by kernel_rfl) (fun β extra => by kernel_rfl) (by kernel_rfl) (fun β => ⟨rfl, trivial⟩)⟩,
                                      tri_quietW (fun β => [(213, .bool true)]) [] [] (fun β => [(.bool ((elS Ls t).2 == p.last), .bool true)]) (by kernel_rfl) (fun β extra => by kernel_rfl) (by kernel_rfl) (fun β => ⟨(bo hd7), trivial⟩)⟩,
                                      tri_quietW (fun β => []) [] [] (fun β => []) (by kernel_rfl) (fun β extra => by kernel_rfl) (by kernel_rfl) (fun β => trivial)⟩,
                                      tri_quietW (fun β => [(215, .bool true)]) [] [] (fun β => [(.bool true, .bool true)]) (by kernel_rfl) (fun β extra => by kernel_rfl) (by kernel_rfl) (fun β => ⟨rfl, trivial⟩)⟩,
                                      tri_quietW (fun β => []) [] [] (fun β => []) (by kernel_rfl) (fun β extra => by kernel_rfl) (by kernel_rfl) (fun β => trivial)⟩,
                                      tri_quietW (fun β => []) [] [] (fun β => []) (by kernel_rfl) (fun β extra => by kernel_rfl) (by kernel_rfl) (fun β => trivial)⟩,
                                      tri_quietW (fun β => []) [] [] (fun β => []) (by kernel_rfl) (fun β extra => by kernel_rfl) (by kernel_rfl) (fun β => trivial)⟩,
                                      tri_quietW (fun β => []) [] [] (fun β => []) (by kernel_rfl) (fun β extra => by kernel_rfl) (by kernel_rfl) (fun β => trivial)⟩,
                                      tri_quietW (fun β => []) [] [] (fun β => []) (by kernel_rfl) (fun β extra => by kernel_rfl) (by kernel_rfl) (fun β => trivial)⟩,
                                      tri_quietW (fun β => []) [] [] (fun β => []) (by kernel_rfl) (fun β extra => by kernel_rfl) (by kernel_rfl) (fun β => trivial)⟩,
                                      tri_quietW (fun β => []) [] [] (fun β => []) (by kernel_rfl) (fun β extra => by kernel_rfl) (by kernel_rfl) (fun β => trivial)⟩,
                                      tri_quietW (fun β => []) [] [] (fun β => []) (by kernel_rfl) (fun β extra => by kernel_rfl) (by kernel_rfl) (fun β => trivial)⟩,
                                      tri_quietW (fun β => []) [] [] (fun β => []) (by kernel_rfl) (fun β extra => by kernel_rfl) (by kernel_rfl) (fun β => trivial)⟩,
                                      tri_quietW (fun β => []) [] [] (fun β => []) (by kernel_rfl) (fun β extra => by kernel_rfl) (by kernel_rfl) (fun β => trivial)⟩,
                                      tri_quietW (fun β => []) [] [] (fun β => []) (by kernel_rfl) (fun β extra => by kernel_rfl) (by kernel_rfl) (fun β => trivial)⟩,
                                      tri_quietW (fun β => []) [] [] (fun β => []) (by kernel_rfl) (fun β extra => by kernel_rfl) (by kernel_rfl) (fun β => trivial)⟩,
                                      tri_quietW (fun β => []) [] [] (fun β => []) (by kernel_rfl) (fun β extra => by kernel_rfl) (by kernel_rfl) (fun β => trivial)⟩
                                      (fun β => ⟨[(2, pA b1), (4, .bool false), (10, iV av), (11, iV ae), (228, .bool true)], [(b1, aO #[.slice p.ba p.bs.length p.bc, iV p.near, iV p.last, .slice p.ta p.ts.length p.tc] 33)]⟩) (fun β => by kernel_rfl) (fun β3 => ?_)
                  refine run_auto [] 5 [true] [] [2, 4, 10, 11] [0] (st' := ⟨[(2, pA b1), (4, .bool false), (10, iV av), (11, iV ae)], [(b1, aO #[.slice p.ba p.bs.length p.bc, iV p.near, iV p.last, .slice p.ta p.ts.length p.tc] 33)]⟩) (acc := [(.bool true, .bool true)]) (by kernel_rfl) (by kernel_rfl) ⟨rfl, trivial⟩ ?_
                  refine run_end (fn := f6) rfl (Nat.le_refl _) (by kernel_rfl) [] [.bool false] (e := []) (by kernel_rfl) trivial (fun w1 k1 h1 => ?_)
                  exfalso
                  omega
            | true =>
              have hp5 : fe = 0 := by simpa using hd5
              cases hd6 : (decide (0 ≤ (t : Int))) with
              | false =>
                have hp6 := of_decide_eq_false hd6
                refine drawW 28 [{ val := fun _ => iV fe, slots := [9] },
                                  { val := fun _ => .bool true, slots := [201] },
                                  { val := fun _ => iV (t : Int), slots := [20] },
                                  { val := fun _ => .bool false, slots := [203] },
                                  { val := fun _ => .bool false, slots := [204] },
                                  { slots := [205] },
                                  { slots := [205] },
                                  { slots := [205] },
                                  { slots := [205] },
                                  { slots := [205] },
                                  { slots := [205] },
                                  { slots := [205] },
                                  { slots := [205] },
                                  { val := fun _ => .bool false, slots := [205, 213] },
                                  { val := fun _ => .bool true, slots := [202, 214] },
                                  { val := fun _ => .bool true, slots := [215] },
                                  { slots := [216] },
                                  { slots := [216] },
                                  { slots := [216] },
                                  { slots := [219] },
                                  { slots := [219] },
                                  { slots := [219] },
                                  { slots := [219] },
                                  { slots := [219] },
                                  { slots := [219] },
                                  { slots := [219] },
                                  { slots := [216] },
                                  { val := fun _ => .bool true, slots := [216, 227] }] [[], [0], [], [2], [2, 3], [2, 3, 4], [2, 3, 4], [2, 3, 4, 5, 6], [2, 3, 4, 5, 6, 7], [2, 3, 4, 5, 6, 7, 8], [2, 3, 4], [2, 3, 4, 10], [2, 3, 4, 5, 6, 7, 8, 9, 10, 11], [2, 3, 4, 5, 6, 7, 8, 9, 10, 11, 12], [0, 1, 2, 3, 4, 5, 6, 7, 8, 9, 10, 11, 12, 13], [0, 1, 2, 3, 4, 5, 6, 7, 8, 9, 10, 11, 12, 13, 14], [0, 1, 2, 3, 4, 5, 6, 7, 8, 9, 10, 11, 12, 13, 14, 15], [0, 1, 2, 3, 4, 5, 6, 7, 8, 9, 10, 11, 12, 13, 14, 15, 16], [0, 1, 2, 3, 4, 5, 6, 7, 8, 9, 10, 11, 12, 13, 14, 15, 16, 17], [0, 1, 2, 3, 4, 5, 6, 7, 8, 9, 10, 11, 12, 13, 14, 15, 16, 17, 18], [0, 1, 2, 3, 4, 5, 6, 7, 8, 9, 10, 11, 12, 13, 14, 15, 16, 17, 18], [0, 1, 2, 3, 4, 5, 6, 7, 8, 9, 10, 11, 12, 13, 14, 15, 16, 17, 18, 19, 20], [0, 1, 2, 3, 4, 5, 6, 7, 8, 9, 10, 11, 12, 13, 14, 15, 16, 17, 18, 19, 20, 21], [0, 1, 2, 3, 4, 5, 6, 7, 8, 9, 10, 11, 12, 13, 14, 15, 16, 17, 18, 19, 20, 21, 22], [0, 1, 2, 3, 4, 5, 6, 7, 8, 9, 10, 11, 12, 13, 14, 15, 16, 17, 18], [0, 1, 2, 3, 4, 5, 6, 7, 8, 9, 10, 11, 12, 13, 14, 15, 16, 17, 18, 19, 20, 21, 22, 23, 24], [0, 1, 2, 3, 4, 5, 6, 7, 8, 9, 10, 11, 12, 13, 14, 15, 16, 17, 18, 19, 20, 21, 22, 23, 24, 25], [0, 1, 2, 3, 4, 5, 6, 7, 8, 9, 10, 11, 12, 13, 14, 15, 16, 17, 18, 19, 20, 21, 22, 23, 24, 25, 26]] (by kernel_rfl) (by kernel_rfl) (by kernel_rfl) (by kernel_rfl) [2, 4, 10, 11, 228] [1] (by kernel_rfl)
                                  ⟨⟨⟨⟨⟨⟨⟨⟨⟨⟨⟨⟨⟨⟨⟨⟨⟨⟨⟨⟨⟨⟨⟨⟨⟨⟨⟨⟨trivial,
                                  tri_quietW (fun β => []) [] [] (fun β => []) (by kernel_rfl) (fun β extra => by kernel_rfl) (by kernel_rfl) (fun β => trivial)⟩,
                                  tri_quietW (fun β => [(202, .bool true)]) [] [] (fun β => [(.bool (fe == 0), .bool true)]) (by kernel_rfl) (fun β extra => by kernel_rfl) (by kernel_rfl) (fun β => ⟨(bo hd5), trivial⟩)⟩,
                                  tri_quietW (fun β => []) [] [] (fun β => []) (by kernel_rfl) (fun β extra => by kernel_rfl) (by kernel_rfl) (fun β => trivial)⟩,
                                  tri_quietW (fun β => [(204, .bool false)]) [] [] (fun β => [(.bool (decide (0 ≤ (t : Int))), .bool false)]) (by kernel_rfl) (fun β extra => by kernel_rfl) (by kernel_rfl) (fun β => ⟨(bo hd6), trivial⟩)⟩,
                                  tri_quietW (fun β => []) [] [] (fun β => []) (by kernel_rfl) (fun β extra => by kernel_rfl) (by kernel_rfl) (fun β => trivial)⟩,
                                  tri_quietW (fun β => []) [] [] (fun β => []) (by kernel_rfl) (fun β extra => by kernel_rfl) (by kernel_rfl) (fun β => trivial)⟩,
                                  tri_quietW (fun β => []) [] [] (fun β => []) (by kernel_rfl) (fun β extra => by kernel_rfl) (by kernel_rfl) (fun β => trivial)⟩,
                                  tri_quietW (fun β => []) [] [] (fun β => []) (by kernel_rfl) (fun β extra => by kernel_rfl) (by kernel_rfl) (fun β => trivial)⟩,
                                  tri_quietW (fun β => []) [] [] (fun β => []) (by kernel_rfl) (fun β extra => by kernel_rfl) (by kernel_rfl) (fun β => trivial)⟩,
                                  tri_quietW (fun β => []) [] [] (fun β => []) (by kernel_rfl) (fun β extra => by kernel_rfl) (by kernel_rfl) (fun β => trivial)⟩,
                                  tri_quietW (fun β => []) [] [] (fun β => []) (by kernel_rfl) (fun β extra => by kernel_rfl) (by kernel_rfl) (fun β => trivial)⟩,
                                  tri_quietW (fun β => []) [] [] (fun β => []) (by kernel_rfl) (fun β extra => by kernel_rfl) (by kernel_rfl) (fun β => trivial)⟩,
                                  tri_quietW (fun β => []) [] [] (fun β => []) (by kernel_rfl) (fun β extra => by kernel_rfl) (by kernel_rfl) (fun β => trivial)⟩,
                                  tri_quietW (fun β => []) [] [] (fun β => []) (by kernel_rfl) (fun β extra => by kernel_rfl) (by kernel_rfl) (fun β => trivial)⟩,
                                  tri_quietW (fun β => [(215, .bool true)]) [] [] (fun β => [(.bool true, .bool true)]) (by kernel_rfl) (fun β extra => by kernel_rfl) (by kernel_rfl) (fun β => ⟨rfl, trivial⟩)⟩,
                                  tri_quietW (fun β => []) [] [] (fun β => []) (by kernel_rfl) (fun β extra => by kernel_rfl) (by kernel_rfl) (fun β => trivial)⟩,
                                  tri_quietW (fun β => []) [] [] (fun β => []) (by kernel_rfl) (fun β extra => by kernel_rfl) (by kernel_rfl) (fun β => trivial)⟩,
                                  tri_quietW (fun β => []) [] [] (fun β => []) (by kernel_rfl) (fun β extra => by kernel_rfl) (by kernel_rfl) (fun β => trivial)⟩,
                                  tri_quietW (fun β => []) [] [] (fun β => []) (by kernel_rfl) (fun β extra => by kernel_rfl) (by kernel_rfl) (fun β => trivial)⟩,
                                  tri_quietW (fun β => []) [] [] (fun β => []) (by kernel_rfl) (fun β extra => by kernel_rfl) (by kernel_rfl) (fun β => trivial)⟩,
                                  tri_quietW (fun β => []) [] [] (fun β => []) (by kernel_rfl) (fun β extra => by kernel_rfl) (by kernel_rfl) (fun β => trivial)⟩,
                                  tri_quietW (fun β => []) [] [] (fun β => []) (by kernel_rfl) (fun β extra => by kernel_rfl) (by kernel_rfl) (fun β => trivial)⟩,
                                  tri_quietW (fun β => []) [] [] (fun β => []) (by kernel_rfl) (fun β extra => by kernel_rfl) (by kernel_rfl) (fun β => trivial)⟩,
                                  tri_quietW (fun β => []) [] [] (fun β => []) (by kernel_rfl) (fun β extra => by kernel_rfl) (by kernel_rfl) (fun β => trivial)⟩,
                                  tri_quietW (fun β => []) [] [] (fun β => []) (by kernel_rfl) (fun β extra => by kernel_rfl) (by kernel_rfl) (fun β => trivial)⟩,
                                  tri_quietW (fun β => []) [] [] (fun β => []) (by kernel_rfl) (fun β extra => by kernel_rfl) (by kernel_rfl) (fun β => trivial)⟩,
                                  tri_quietW (fun β => []) [] [] (fun β => []) (by kernel_rfl) (fun β extra => by kernel_rfl) (by kernel_rfl) (fun β => trivial)⟩,
                                  tri_quietW (fun β => []) [] [] (fun β => []) (by kernel_rfl) (fun β extra => by kernel_rfl) (by kernel_rfl) (fun β => trivial)⟩
                                  (fun β => ⟨[(2, pA b1), (4, .bool false), (10, iV av), (11, iV ae), (228, .bool true)], [(b1, aO #[.slice p.ba p.bs.length p.bc, iV p.near, iV p.last, .slice p.ta p.ts.length p.tc] 33)]⟩) (fun β => by kernel_rfl) (fun β3 => ?_)
                refine run_auto [] 5 [true] [] [2, 4, 10, 11] [0] (st' := ⟨[(2, pA b1), (4, .bool false), (10, iV av), (11, iV ae)], [(b1, aO #[.slice p.ba p.bs.length p.bc, iV p.near, iV p.last, .slice p.ta p.ts.length p.tc] 33)]⟩) (acc := [(.bool true, .bool true)]) (by kernel_rfl) (by kernel_rfl) ⟨rfl, trivial⟩ ?_
                refine run_end (fn := f6) rfl (Nat.le_refl _) (by kernel_rfl) [] [.bool false] (e := []) (by kernel_rfl) trivial (fun w1 k1 h1 => ?_)
                exfalso
                omega
              | true =>
                have hp6 := of_decide_eq_true hd6
                cases hd7 : ((elS Ls t).2 == p.last) with
                | false =>
                  have hp7 : ¬ (elS Ls t).2 = p.last := by simpa using hd7
                  refine drawW 28 [{ val := fun _ => iV fe, slots := [9] },
                                      { val := fun _ => .bool true, slots := [201] },
                                      { val := fun _ => iV (t : Int), slots := [20] },
                                      { val := fun _ => .bool true, slots := [203] },
                                      { val := fun _ => .bool true, slots := [204] },
                                      { val := fun _ => sV rg2 Ls.length rc2, slots := [6, 205] },
                                      { val := fun _ => iV (t : Int), slots := [20, 205] },
                                      { val := fun _ => .pointer (some ⟨rg2, t * 2, none⟩), slots := [205, 206, 207] },
                                      { val := fun _ => .pointer (some ⟨rg2, t * 2 + 1, none⟩), slots := [205, 208] },
                                      { val := fun _ => iV (elS Ls t).2, slots := [205, 209], reads := [0] },
                                      { val := fun _ => .pointer (some ⟨b1, 2, none⟩), slots := [2, 205] },
                                      { val := fun _ => iV p.last, slots := [205, 211], reads := [1] },
                                      { val := fun _ => .bool false, slots := [205, 210, 212] },
                                      { val := fun _ => .bool false, slots := [205, 213] },
                                      { val := fun _ => .bool true, slots := [202, 214] },
                                      { val := fun _ => .bool true, slots := [215] },
                                      { slots := [216] },
                                      { slots := [216] },
                                      { slots := [216] },
                                      { slots := [219] },
                                      { slots := [219] },
                                      { slots := [219] },
                                      { slots := [219] },
                                      { slots := [219] },
                                      { slots := [219] },
                                      { slots := [219] },
                                      { slots := [216] },
                                      { val := fun _ => .bool true, slots := [216, 227] }] [[], [0], [], [2], [2, 3], [2, 3, 4], [2, 3, 4], [2, 3, 4, 5, 6], [2, 3, 4, 5, 6, 7], [2, 3, 4, 5, 6, 7, 8], [2, 3, 4], [2, 3, 4, 10], [2, 3, 4, 5, 6, 7, 8, 9, 10, 11], [2, 3, 4, 5, 6, 7, 8, 9, 10, 11, 12], [0, 1, 2, 3, 4, 5, 6, 7, 8, 9, 10, 11, 12, 13], [0, 1, 2, 3, 4, 5, 6, 7, 8, 9, 10, 11, 12, 13, 14], [0, 1, 2, 3, 4, 5, 6, 7, 8, 9, 10, 11, 12, 13, 14, 15], [0, 1, 2, 3, 4, 5, 6, 7, 8, 9, 10, 11, 12, 13, 14, 15, 16], [0, 1, 2, 3, 4, 5, 6, 7, 8, 9, 10, 11, 12, 13, 14, 15, 16, 17], [0, 1, 2, 3, 4, 5, 6, 7, 8, 9, 10, 11, 12, 13, 14, 15, 16, 17, 18], [0, 1, 2, 3, 4, 5, 6, 7, 8, 9, 10, 11, 12, 13, 14, 15, 16, 17, 18], [0, 1, 2, 3, 4, 5, 6, 7, 8, 9, 10, 11, 12, 13, 14, 15, 16, 17, 18, 19, 20], [0, 1, 2, 3, 4, 5, 6, 7, 8, 9, 10, 11, 12, 13, 14, 15, 16, 17, 18, 19, 20, 21], [0, 1, 2, 3, 4, 5, 6, 7, 8, 9, 10, 11, 12, 13, 14, 15, 16, 17, 18, 19, 20, 21, 22], [0, 1, 2, 3, 4, 5, 6, 7, 8, 9, 10, 11, 12, 13, 14, 15, 16, 17, 18], [0, 1, 2, 3, 4, 5, 6, 7, 8, 9, 10, 11, 12, 13, 14, 15, 16, 17, 18, 19, 20, 21, 22, 23, 24], [0, 1, 2, 3, 4, 5, 6, 7, 8, 9, 10, 11, 12, 13, 14, 15, 16, 17, 18, 19, 20, 21, 22, 23, 24, 25], [0, 1, 2, 3, 4, 5, 6, 7, 8, 9, 10, 11, 12, 13, 14, 15, 16, 17, 18, 19, 20, 21, 22, 23, 24, 25, 26]] (by kernel_rfl) (by kernel_rfl) (by kernel_rfl) (by kernel_rfl) [2, 4, 10, 11, 228] [1] (by kernel_rfl)
                                      ⟨⟨⟨⟨⟨⟨⟨⟨⟨⟨⟨⟨⟨⟨⟨⟨⟨⟨⟨⟨⟨⟨⟨⟨⟨⟨⟨⟨trivial,
                                      tri_quietW (fun β => []) [] [] (fun β => []) (by kernel_rfl) (fun β extra => by kernel_rfl) (by kernel_rfl) (fun β => trivial)⟩,
                                      tri_quietW (fun β => [(202, .bool true)]) [] [] (fun β => [(.bool (fe == 0), .bool true)]) (by kernel_rfl) (fun β extra => by kernel_rfl) (by kernel_rfl) (fun β => ⟨(bo hd5), trivial⟩)⟩,
                                      tri_quietW (fun β => []) [] [] (fun β => []) (by kernel_rfl) (fun β extra => by kernel_rfl) (by kernel_rfl) (fun β => trivial)⟩,
                                      tri_quietW (fun β => [(204, .bool true)]) [] [] (fun β => [(.bool (decide (0 ≤ (t : Int))), .bool true)]) (by kernel_rfl) (fun β extra => by kernel_rfl) (by kernel_rfl) (fun β => ⟨(bo hd6), trivial⟩)⟩,
                                      tri_quietW (fun β => []) [] [] (fun β => []) (by kernel_rfl) (fun β extra => by kernel_rfl) (by kernel_rfl) (fun β => trivial)⟩,
                                      tri_quietW (fun β => []) [] [] (fun β => []) (by kernel_rfl) (fun β extra => by kernel_rfl) (by kernel_rfl) (fun β => trivial)⟩,
                                      tri_quietW (fun β => []) [] [] (fun β => []) (by kernel_rfl) (fun β extra => by kernel_rfl) (by kernel_rfl) (fun β => trivial)⟩,
                                      tri_vVW (fun β => .pointer (some ⟨rg2, t * 2, none⟩)) (fun β => by kernel_rfl) (fun β => (Instr.indexAt 38 (sV rg2 Ls.length rc2) (iV (t : Int)) >>= fun v => pure (Next.value v))) (by kernel_rfl) (fun β extra => by kernel_rfl) (fun β => by kernel_rfl) (fun β w1 k1 h1 => idx_off (e := 23) (n := 2) (by kernel_rfl) (by kernel_rfl) rg2 (0) Ls.length rc2 .i64 t (by omega) (t * 2) (by omega) w1)⟩,
                                      tri_quietW (fun β => []) [] [] (fun β => []) (by kernel_rfl) (fun β extra => by kernel_rfl) (by kernel_rfl) (fun β => trivial)⟩,
                                      tri_vVW (fun β => iV (elS Ls t).2) (fun β => by kernel_rfl) (fun β => (Instr.loadAt 3 (.pointer (some ⟨rg2, t * 2 + 1, none⟩)) >>= fun v => pure (Next.value v))) (by kernel_rfl) (fun β extra => by kernel_rfl) (fun β => by kernel_rfl) (fun β w1 k1 h1 => load_own (e := 23) (fr := (0, 0)) (c := (Ls).flatMap spR ++ rsp2) h1 (List.mem_of_getElem? (i := 0) (by kernel_rfl)) (flat_loadF (c := spR) (n := 2) spR_len (by kernel_rfl) (i := t) (k := 1) (by first | omega | (simp; omega)) (by rw [spR_at (by first | omega | (simp; omega))]; rfl) (by omega)))⟩,
                                      tri_quietW (fun β => []) [] [] (fun β => []) (by kernel_rfl) (fun β extra => by kernel_rfl) (by kernel_rfl) (fun β => trivial)⟩,
                                      tri_quietW (fun β => []) [0] [0] (fun β => [(pA b1, pA b1)]) (by kernel_rfl) (fun β extra => by kernel_rfl) (by kernel_rfl) (fun β => ⟨rfl, trivial⟩)⟩,
                                      tri_quietW (fun β => [(213, .bool false)]) [] [] (fun β => [(.bool ((elS Ls t).2 == p.last), .bool false)]) (by kernel_rfl) (fun β extra => by kernel_rfl) (by kernel_rfl) (fun β => ⟨(bo hd7), trivial⟩)⟩,
                                      tri_quietW (fun β => []) [] [] (fun β => []) (by kernel_rfl) (fun β extra => by kernel_rfl) (by kernel_rfl) (fun β => trivial)⟩,
                                      tri_quietW (fun β => [(215, .bool true)]) [] [] (fun β => [(.bool true, .bool true)]) (by kernel_rfl) (fun β extra => by kernel_rfl) (by kernel_rfl) (fun β => ⟨rfl, trivial⟩)⟩,
                                      tri_quietW (fun β => []) [] [] (fun β => []) (by kernel_rfl) (fun β extra => by kernel_rfl) (by kernel_rfl) (fun β => trivial)⟩,
                                      tri_quietW (fun β => []) [] [] (fun β => []) (by kernel_rfl) (fun β extra => by kernel_rfl) (by kernel_rfl) (fun β => trivial)⟩,
                                      tri_quietW (fun β => []) [] [] (fun β => []) (by kernel_rfl) (fun β extra => by kernel_rfl) (by kernel_rfl) (fun β => trivial)⟩,
                                      tri_quietW (fun β => []) [] [] (fun β => []) (by kernel_rfl) (fun β extra => by kernel_rfl) (by kernel_rfl) (fun β => trivial)⟩,
                                      tri_quietW (fun β => []) [] [] (fun β => []) (by kernel_rfl) (fun β extra => by kernel_rfl) (by kernel_rfl) (fun β => trivial)⟩,
                                      tri_quietW (fun β => []) [] [] (fun β => []) (by kernel_rfl) (fun β extra => by kernel_rfl) (by kernel_rfl) (fun β => trivial)⟩,
                                      tri_quietW (fun β => []) [] [] (fun β => []) (by kernel_rfl) (fun β extra => by kernel_rfl) (by kernel_rfl) (fun β => trivial)⟩,
                                      tri_quietW (fun β => []) [] [] (fun β => []) (by kernel_rfl) (fun β extra => by kernel_rfl) (by kernel_rfl) (fun β => trivial)⟩,
                                      tri_quietW (fun β => []) [] [] (fun β => []) (by kernel_rfl) (fun β extra => by kernel_rfl) (by kernel_rfl) (fun β => trivial)⟩,
                                      tri_quietW (fun β => []) [] [] (fun β => []) (by kernel_rfl) (fun β extra => by kernel_rfl) (by kernel_rfl) (fun β => trivial)⟩,
                                      tri_quietW (fun β => []) [] [] (fun β => []) (by kernel_rfl) (fun β extra => by kernel_rfl) (by kernel_rfl) (fun β => trivial)⟩,
                                      tri_quietW (fun β => []) [] [] (fun β => []) (by kernel_rfl) (fun β extra => by kernel_rfl) (by kernel_rfl) (fun β => trivial)⟩,
                                      tri_quietW (fun β => []) [] [] (fun β => []) (by kernel_rfl) (fun β extra => by kernel_rfl) (by kernel_rfl) (fun β => trivial)⟩
                                      (fun β => ⟨[(2, pA b1), (4, .bool false), (10, iV av), (11, iV ae), (228, .bool true)], [(b1, aO #[.slice p.ba p.bs.length p.bc, iV p.near, iV p.last, .slice p.ta p.ts.length p.tc] 33)]⟩) (fun β => by kernel_rfl) (fun β3 => ?_)
                  refine run_auto [] 5 [true] [] [2, 4, 10, 11] [0] (st' := ⟨[(2, pA b1), (4, .bool false), (10, iV av), (11, iV ae)], [(b1, aO #[.slice p.ba p.bs.length p.bc, iV p.near, iV p.last, .slice p.ta p.ts.length p.tc] 33)]⟩) (acc := [(.bool true, .bool true)]) (by kernel_rfl) (by kernel_rfl) ⟨rfl, trivial⟩ ?_
                  refine run_end (fn := f6) rfl (Nat.le_refl _) (by kernel_rfl) [] [.bool false] (e := []) (by kernel_rfl) trivial (fun w1 k1 h1 => ?_)
                  exfalso
                  omega
                | true =>
                  have hp7 : (elS Ls t).2 = p.last := by simpa using hd7
                  cases hd8 : ((elS Ls t).1 != fv) with
                  | false =>
                    have hp8 : (elS Ls t).1 = fv := by simpa using hd8
                    refine drawW 28 [{ val := fun _ => iV fe, slots := [9] },
                                          { val := fun _ => .bool true, slots := [201] },
                                          { val := fun _ => iV (t : Int), slots := [20] },
                                          { val := fun _ => .bool true, slots := [203] },
                                          { val := fun _ => .bool true, slots := [204] },
                                          { val := fun _ => sV rg2 Ls.length rc2, slots := [6, 205] },
                                          { val := fun _ => iV (t : Int), slots := [20, 205] },
                                          { val := fun _ => .pointer (some ⟨rg2, t * 2, none⟩), slots := [205, 206, 207] },
                                          { val := fun _ => .pointer (some ⟨rg2, t * 2 + 1, none⟩), slots := [205, 208] },
                                          { val := fun _ => iV (elS Ls t).2, slots := [205, 209], reads := [0] },
                                          { val := fun _ => .pointer (some ⟨b1, 2, none⟩), slots := [2, 205] },
                                          { val := fun _ => iV p.last, slots := [205, 211], reads := [1] },
                                          { val := fun _ => .bool true, slots := [205, 210, 212] },
                                          { val := fun _ => .bool true, slots := [205, 213] },
                                          { val := fun _ => .bool false, slots := [202, 214] },
                                          { val := fun _ => .bool false, slots := [215] },
                                          { val := fun _ => iV fe, slots := [9, 216] },
                                          { val := fun _ => .bool true, slots := [216, 217] },
                                          { val := fun _ => .bool true, slots := [216, 218] },
                                          { val := fun _ => sV rg2 Ls.length rc2, slots := [6, 219] },
                                          { val := fun _ => iV (t : Int), slots := [20, 219] },
                                          { val := fun _ => .pointer (some ⟨rg2, t * 2, none⟩), slots := [219, 220, 221] },
                                          { val := fun _ => .pointer (some ⟨rg2, t * 2, none⟩), slots := [219, 222] },
                                          { val := fun _ => iV (elS Ls t).1, slots := [219, 223], reads := [0] },
                                          { val := fun _ => iV fv, slots := [8, 219] },
                                          { val := fun _ => .bool false, slots := [219, 224, 225] },
                                          { val := fun _ => .bool false, slots := [216, 219, 226] },
                                          { val := fun _ => .bool false, slots := [216, 227] }] [[], [0], [], [2], [2, 3], [2, 3, 4], [2, 3, 4], [2, 3, 4, 5, 6], [2, 3, 4, 5, 6, 7], [2, 3, 4, 5, 6, 7, 8], [2, 3, 4], [2, 3, 4, 10], [2, 3, 4, 5, 6, 7, 8, 9, 10, 11], [2, 3, 4, 5, 6, 7, 8, 9, 10, 11, 12], [0, 1, 2, 3, 4, 5, 6, 7, 8, 9, 10, 11, 12, 13], [0, 1, 2, 3, 4, 5, 6, 7, 8, 9, 10, 11, 12, 13, 14], [0, 1, 2, 3, 4, 5, 6, 7, 8, 9, 10, 11, 12, 13, 14, 15], [0, 1, 2, 3, 4, 5, 6, 7, 8, 9, 10, 11, 12, 13, 14, 15, 16], [0, 1, 2, 3, 4, 5, 6, 7, 8, 9, 10, 11, 12, 13, 14, 15, 16, 17], [0, 1, 2, 3, 4, 5, 6, 7, 8, 9, 10, 11, 12, 13, 14, 15, 16, 17, 18], [0, 1, 2, 3, 4, 5, 6, 7, 8, 9, 10, 11, 12, 13, 14, 15, 16, 17, 18], [0, 1, 2, 3, 4, 5, 6, 7, 8, 9, 10, 11, 12, 13, 14, 15, 16, 17, 18, 19, 20], [0, 1, 2, 3, 4, 5, 6, 7, 8, 9, 10, 11, 12, 13, 14, 15, 16, 17, 18, 19, 20, 21], [0, 1, 2, 3, 4, 5, 6, 7, 8, 9, 10, 11, 12, 13, 14, 15, 16, 17, 18, 19, 20, 21, 22], [0, 1, 2, 3, 4, 5, 6, 7, 8, 9, 10, 11, 12, 13, 14, 15, 16, 17, 18], [0, 1, 2, 3, 4, 5, 6, 7, 8, 9, 10, 11, 12, 13, 14, 15, 16, 17, 18, 19, 20, 21, 22, 23, 24], [0, 1, 2, 3, 4, 5, 6, 7, 8, 9, 10, 11, 12, 13, 14, 15, 16, 17, 18, 19, 20, 21, 22, 23, 24, 25], [0, 1, 2, 3, 4, 5, 6, 7, 8, 9, 10, 11, 12, 13, 14, 15, 16, 17, 18, 19, 20, 21, 22, 23, 24, 25, 26]] (by kernel_rfl) (by kernel_rfl) (by kernel_rfl) (by kernel_rfl) [2, 4, 10, 11, 228] [1] (by kernel_rfl)
                                          ⟨⟨⟨⟨⟨⟨⟨⟨⟨⟨⟨⟨⟨⟨⟨⟨⟨⟨⟨⟨⟨⟨⟨⟨⟨⟨⟨⟨trivial,
                                          tri_quietW (fun β => []) [] [] (fun β => []) (by kernel_rfl) (fun β extra => by kernel_rfl) (by kernel_rfl) (fun β => trivial)⟩,
                                          tri_quietW (fun β => [(202, .bool true)]) [] [] (fun β => [(.bool (fe == 0), .bool true)]) (by kernel_rfl) (fun β extra => by kernel_rfl) (by kernel_rfl) (fun β => ⟨(bo hd5), trivial⟩)⟩,
                                          tri_quietW (fun β => []) [] [] (fun β => []) (by kernel_rfl) (fun β extra => by kernel_rfl) (by kernel_rfl) (fun β => trivial)⟩,
                                          tri_quietW (fun β => [(204, .bool true)]) [] [] (fun β => [(.bool (decide (0 ≤ (t : Int))), .bool true)]) (by kernel_rfl) (fun β extra => by kernel_rfl) (by kernel_rfl) (fun β => ⟨(bo hd6), trivial⟩)⟩,
                                          tri_quietW (fun β => []) [] [] (fun β => []) (by kernel_rfl) (fun β extra => by kernel_rfl) (by kernel_rfl) (fun β => trivial)⟩,
                                          tri_quietW (fun β => []) [] [] (fun β => []) (by kernel_rfl) (fun β extra => by kernel_rfl) (by kernel_rfl) (fun β => trivial)⟩,
                                          tri_quietW (fun β => []) [] [] (fun β => []) (by kernel_rfl) (fun β extra => by kernel_rfl) (by kernel_rfl) (fun β => trivial)⟩,
                                          tri_vVW (fun β => .pointer (some ⟨rg2, t * 2, none⟩)) (fun β => by kernel_rfl) (fun β => (Instr.indexAt 38 (sV rg2 Ls.length rc2) (iV (t : Int)) >>= fun v => pure (Next.value v))) (by kernel_rfl) (fun β extra => by kernel_rfl) (fun β => by kernel_rfl) (fun β w1 k1 h1 => idx_off (e := 23) (n := 2) (by kernel_rfl) (by kernel_rfl) rg2 (0) Ls.length rc2 .i64 t (by omega) (t * 2) (by omega) w1)⟩,
                                          tri_quietW (fun β => []) [] [] (fun β => []) (by kernel_rfl) (fun β extra => by kernel_rfl) (by kernel_rfl) (fun β => trivial)⟩,
                                          tri_vVW (fun β => iV (elS Ls t).2) (fun β => by kernel_rfl) (fun β => (Instr.loadAt 3 (.pointer (some ⟨rg2, t * 2 + 1, none⟩)) >>= fun v => pure (Next.value v))) (by kernel_rfl) (fun β extra => by kernel_rfl) (fun β => by kernel_rfl) (fun β w1 k1 h1 => load_own (e := 23) (fr := (0, 0)) (c := (Ls).flatMap spR ++ rsp2) h1 (List.mem_of_getElem? (i := 0) (by kernel_rfl)) (flat_loadF (c := spR) (n := 2) spR_len (by kernel_rfl) (i := t) (k := 1) (by first | omega | (simp; omega)) (by rw [spR_at (by first | omega | (simp; omega))]; rfl) (by omega)))⟩,
                                          tri_quietW (fun β => []) [] [] (fun β => []) (by kernel_rfl) (fun β extra => by kernel_rfl) (by kernel_rfl) (fun β => trivial)⟩,
                                          tri_quietW (fun β => []) [0] [0] (fun β => [(pA b1, pA b1)]) (by kernel_rfl) (fun β extra => by kernel_rfl) (by kernel_rfl) (fun β => ⟨rfl, trivial⟩)⟩,
                                          tri_quietW (fun β => [(213, .bool true)]) [] [] (fun β => [(.bool ((elS Ls t).2 == p.last), .bool true)]) (by kernel_rfl) (fun β extra => by kernel_rfl) (by kernel_rfl) (fun β => ⟨(bo hd7), trivial⟩)⟩,
                                          tri_quietW (fun β => []) [] [] (fun β => []) (by kernel_rfl) (fun β extra => by kernel_rfl) (by kernel_rfl) (fun β => trivial)⟩,
                                          tri_quietW (fun β => [(215, .bool false)]) [] [] (fun β => [(.bool false, .bool false)]) (by kernel_rfl) (fun β extra => by kernel_rfl) (by kernel_rfl) (fun β => ⟨rfl, trivial⟩)⟩,
                                          tri_quietW (fun β => []) [] [] (fun β => []) (by kernel_rfl) (fun β extra => by kernel_rfl) (by kernel_rfl) (fun β => trivial)⟩,
                                          tri_quietW (fun β => []) [] [] (fun β => []) (by kernel_rfl) (fun β extra => by kernel_rfl) (by kernel_rfl) (fun β => trivial)⟩,
                                          tri_quietW (fun β => [(218, .bool true)]) [] [] (fun β => [(.bool (fe == 0), .bool true)]) (by kernel_rfl) (fun β extra => by kernel_rfl) (by kernel_rfl) (fun β => ⟨(bo hd5), trivial⟩)⟩,
                                          tri_quietW (fun β => []) [] [] (fun β => []) (by kernel_rfl) (fun β extra => by kernel_rfl) (by kernel_rfl) (fun β => trivial)⟩,
                                          tri_quietW (fun β => []) [] [] (fun β => []) (by kernel_rfl) (fun β extra => by kernel_rfl) (by kernel_rfl) (fun β => trivial)⟩,
                                          tri_quietW (fun β => []) [] [] (fun β => []) (by kernel_rfl) (fun β extra => by kernel_rfl) (by kernel_rfl) (fun β => trivial)⟩,
                                          tri_vVW (fun β => .pointer (some ⟨rg2, t * 2, none⟩)) (fun β => by kernel_rfl) (fun β => (Instr.indexAt 38 (sV rg2 Ls.length rc2) (iV (t : Int)) >>= fun v => pure (Next.value v))) (by kernel_rfl) (fun β extra => by kernel_rfl) (fun β => by kernel_rfl) (fun β w1 k1 h1 => idx_off (e := 23) (n := 2) (by kernel_rfl) (by kernel_rfl) rg2 (0) Ls.length rc2 .i64 t (by omega) (t * 2) (by omega) w1)⟩,
                                          tri_quietW (fun β => []) [] [] (fun β => []) (by kernel_rfl) (fun β extra => by kernel_rfl) (by kernel_rfl) (fun β => trivial)⟩,
                                          tri_vVW (fun β => iV (elS Ls t).1) (fun β => by kernel_rfl) (fun β => (Instr.loadAt 3 (.pointer (some ⟨rg2, t * 2, none⟩)) >>= fun v => pure (Next.value v))) (by kernel_rfl) (fun β extra => by kernel_rfl) (fun β => by kernel_rfl) (fun β w1 k1 h1 => load_own (e := 23) (fr := (0, 0)) (c := (Ls).flatMap spR ++ rsp2) h1 (List.mem_of_getElem? (i := 0) (by kernel_rfl)) (flat_loadF (c := spR) (n := 2) spR_len (by kernel_rfl) (i := t) (k := 0) (by first | omega | (simp; omega)) (by rw [spR_at (by first | omega | (simp; omega))]; rfl) (by omega)))⟩,
                                          tri_quietW (fun β => []) [] [] (fun β => []) (by kernel_rfl) (fun β extra => by kernel_rfl) (by kernel_rfl) (fun β => trivial)⟩,
                                          tri_quietW (fun β => [(226, .bool false)]) [] [] (fun β => [(.bool ((elS Ls t).1 != fv), .bool false)]) (by kernel_rfl) (fun β extra => by kernel_rfl) (by kernel_rfl) (fun β => ⟨(bo hd8), trivial⟩)⟩,
                                          tri_quietW (fun β => []) [] [] (fun β => []) (by kernel_rfl) (fun β extra => by kernel_rfl) (by kernel_rfl) (fun β => trivial)⟩,
                                          tri_quietW (fun β => []) [] [] (fun β => []) (by kernel_rfl) (fun β extra => by kernel_rfl) (by kernel_rfl) (fun β => trivial)⟩
                                          (fun β => ⟨[(2, pA b1), (4, .bool false), (10, iV av), (11, iV ae), (228, .bool false)], [(b1, aO #[.slice p.ba p.bs.length p.bc, iV p.near, iV p.last, .slice p.ta p.ts.length p.tc] 33)]⟩) (fun β => by kernel_rfl) (fun β3 => ?_)
                    refine run_auto [] 3 [false] [] [2, 10, 11] [0] (st' := ⟨[(2, pA b1), (10, iV av), (11, iV ae)], [(b1, aO #[.slice p.ba p.bs.length p.bc, iV p.near, iV p.last, .slice p.ta p.ts.length p.tc] 33)]⟩) (acc := [(.bool false, .bool false)]) (by kernel_rfl) (by kernel_rfl) ⟨rfl, trivial⟩ ?_
                    exact run_eqK (by kernel_rfl) (rests30 p b1 av ae w hp hok hav hae)
                  | true =>
                    have hp8 : ¬ (elS Ls t).1 = fv := by simpa using hd8
                    refine drawW 28 [{ val := fun _ => iV fe, slots := [9] },
                                          { val := fun _ => .bool true, slots := [201] },
                                          { val := fun _ => iV (t : Int), slots := [20] },
                                          { val := fun _ => .bool true, slots := [203] },
                                          { val := fun _ => .bool true, slots := [204] },
                                          { val := fun _ => sV rg2 Ls.length rc2, slots := [6, 205] },
                                          { val := fun _ => iV (t : Int), slots := [20, 205] },
                                          { val := fun _ => .pointer (some ⟨rg2, t * 2, none⟩), slots := [205, 206, 207] },
                                          { val := fun _ => .pointer (some ⟨rg2, t * 2 + 1, none⟩), slots := [205, 208] },
                                          { val := fun _ => iV (elS Ls t).2, slots := [205, 209], reads := [0] },
                                          { val := fun _ => .pointer (some ⟨b1, 2, none⟩), slots := [2, 205] },
                                          { val := fun _ => iV p.last, slots := [205, 211], reads := [1] },
                                          { val := fun _ => .bool true, slots := [205, 210, 212] },
                                          { val := fun _ => .bool true, slots := [205, 213] },
                                          { val := fun _ => .bool false, slots := [202, 214] },
                                          { val := fun _ => .bool false, slots := [215] },
                                          { val := fun _ => iV fe, slots := [9, 216] },
                                          { val := fun _ => .bool true, slots := [216, 217] },
                                          { val := fun _ => .bool true, slots := [216, 218] },
                                          { val := fun _ => sV rg2 Ls.length rc2, slots := [6, 219] },
                                          { val := fun _ => iV (t : Int), slots := [20, 219] },
                                          { val := fun _ => .pointer (some ⟨rg2, t * 2, none⟩), slots := [219, 220, 221] },
                                          { val := fun _ => .pointer (some ⟨rg2, t * 2, none⟩), slots := [219, 222] },
                                          { val := fun _ => iV (elS Ls t).1, slots := [219, 223], reads := [0] },
                                          { val := fun _ => iV fv, slots := [8, 219] },
                                          { val := fun _ => .bool true, slots := [219, 224, 225] },
                                          { val := fun _ => .bool true, slots := [216, 219, 226] },
                                          { val := fun _ => .bool true, slots := [216, 227] }] [[], [0], [], [2], [2, 3], [2, 3, 4], [2, 3, 4], [2, 3, 4, 5, 6], [2, 3, 4, 5, 6, 7], [2, 3, 4, 5, 6, 7, 8], [2, 3, 4], [2, 3, 4, 10], [2, 3, 4, 5, 6, 7, 8, 9, 10, 11], [2, 3, 4, 5, 6, 7, 8, 9, 10, 11, 12], [0, 1, 2, 3, 4, 5, 6, 7, 8, 9, 10, 11, 12, 13], [0, 1, 2, 3, 4, 5, 6, 7, 8, 9, 10, 11, 12, 13, 14], [0, 1, 2, 3, 4, 5, 6, 7, 8, 9, 10, 11, 12, 13, 14, 15], [0, 1, 2, 3, 4, 5, 6, 7, 8, 9, 10, 11, 12, 13, 14, 15, 16], [0, 1, 2, 3, 4, 5, 6, 7, 8, 9, 10, 11, 12, 13, 14, 15, 16, 17], [0, 1, 2, 3, 4, 5, 6, 7, 8, 9, 10, 11, 12, 13, 14, 15, 16, 17, 18], [0, 1, 2, 3, 4, 5, 6, 7, 8, 9, 10, 11, 12, 13, 14, 15, 16, 17, 18], [0, 1, 2, 3, 4, 5, 6, 7, 8, 9, 10, 11, 12, 13, 14, 15, 16, 17, 18, 19, 20], [0, 1, 2, 3, 4, 5, 6, 7, 8, 9, 10, 11, 12, 13, 14, 15, 16, 17, 18, 19, 20, 21], [0, 1, 2, 3, 4, 5, 6, 7, 8, 9, 10, 11, 12, 13, 14, 15, 16, 17, 18, 19, 20, 21, 22], [0, 1, 2, 3, 4, 5, 6, 7, 8, 9, 10, 11, 12, 13, 14, 15, 16, 17, 18], [0, 1, 2, 3, 4, 5, 6, 7, 8, 9, 10, 11, 12, 13, 14, 15, 16, 17, 18, 19, 20, 21, 22, 23, 24], [0, 1, 2, 3, 4, 5, 6, 7, 8, 9, 10, 11, 12, 13, 14, 15, 16, 17, 18, 19, 20, 21, 22, 23, 24, 25], [0, 1, 2, 3, 4, 5, 6, 7, 8, 9, 10, 11, 12, 13, 14, 15, 16, 17, 18, 19, 20, 21, 22, 23, 24, 25, 26]] (by kernel_rfl) (by kernel_rfl) (by kernel_rfl) (by kernel_rfl) [2, 4, 10, 11, 228] [1] (by kernel_rfl)
                                          ⟨⟨⟨⟨⟨⟨⟨⟨⟨⟨⟨⟨⟨⟨⟨⟨⟨⟨⟨⟨⟨⟨⟨⟨⟨⟨⟨⟨trivial,
                                          tri_quietW (fun β => []) [] [] (fun β => []) (by kernel_rfl) (fun β extra => by kernel_rfl) (by kernel_rfl) (fun β => trivial)⟩,
                                          tri_quietW (fun β => [(202, .bool true)]) [] [] (fun β => [(.bool (fe == 0), .bool true)]) (by kernel_rfl) (fun β extra => by kernel_rfl) (by kernel_rfl) (fun β => ⟨(bo hd5), trivial⟩)⟩,
                                          tri_quietW (fun β => []) [] [] (fun β => []) (by kernel_rfl) (fun β extra => by kernel_rfl) (by kernel_rfl) (fun β => trivial)⟩,
                                          tri_quietW (fun β => [(204, .bool true)]) [] [] (fun β => [(.bool (decide (0 ≤ (t : Int))), .bool true)]) (by kernel_rfl) (fun β extra => by kernel_rfl) (by kernel_rfl) (fun β => ⟨(bo hd6), trivial⟩)⟩,
                                          tri_quietW (fun β => []) [] [] (fun β => []) (by kernel_rfl) (fun β extra => by kernel_rfl) (by kernel_rfl) (fun β => trivial)⟩,
                                          tri_quietW (fun β => []) [] [] (fun β => []) (by kernel_rfl) (fun β extra => by kernel_rfl) (by kernel_rfl) (fun β => trivial)⟩,
                                          tri_quietW (fun β => []) [] [] (fun β => []) (by kernel_rfl) (fun β extra => by kernel_rfl) (by kernel_rfl) (fun β => trivial)⟩,
                                          tri_vVW (fun β => .pointer (some ⟨rg2, t * 2, none⟩)) (fun β => by kernel_rfl) (fun β => (Instr.indexAt 38 (sV rg2 Ls.length rc2) (iV (t : Int)) >>= fun v => pure (Next.value v))) (by kernel_rfl) (fun β extra => by kernel_rfl) (fun β => by kernel_rfl) (fun β w1 k1 h1 => idx_off (e := 23) (n := 2) (by kernel_rfl) (by kernel_rfl) rg2 (0) Ls.length rc2 .i64 t (by omega) (t * 2) (by omega) w1)⟩,
                                          tri_quietW (fun β => []) [] [] (fun β => []) (by kernel_rfl) (fun β extra => by kernel_rfl) (by kernel_rfl) (fun β => trivial)⟩,
                                          tri_vVW (fun β => iV (elS Ls t).2) (fun β => by kernel_rfl) (fun β => (Instr.loadAt 3 (.pointer (some ⟨rg2, t * 2 + 1, none⟩)) >>= fun v => pure (Next.value v))) (by kernel_rfl) (fun β extra => by kernel_rfl) (fun β => by kernel_rfl) (fun β w1 k1 h1 => load_own (e := 23) (fr := (0, 0)) (c := (Ls).flatMap spR ++ rsp2) h1 (List.mem_of_getElem? (i := 0) (by kernel_rfl)) (flat_loadF (c := spR) (n := 2) spR_len (by kernel_rfl) (i := t) (k := 1) (by first | omega | (simp; omega)) (by rw [spR_at (by first | omega | (simp; omega))]; rfl) (by omega)))⟩,
                                          tri_quietW (fun β => []) [] [] (fun β => []) (by kernel_rfl) (fun β extra => by kernel_rfl) (by kernel_rfl) (fun β => trivial)⟩,
                                          tri_quietW (fun β => []) [0] [0] (fun β => [(pA b1, pA b1)]) (by kernel_rfl) (fun β extra => by kernel_rfl) (by kernel_rfl) (fun β => ⟨rfl, trivial⟩)⟩,
                                          tri_quietW (fun β => [(213, .bool true)]) [] [] (fun β => [(.bool ((elS Ls t).2 == p.last), .bool true)]) (by kernel_rfl) (fun β extra => by kernel_rfl) (by kernel_rfl) (fun β => ⟨(bo hd7), trivial⟩)⟩,
                                          tri_quietW (fun β => []) [] [] (fun β => []) (by kernel_rfl) (fun β extra => by kernel_rfl) (by kernel_rfl) (fun β => trivial)⟩,
                                          tri_quietW (fun β => [(215, .bool false)]) [] [] (fun β => [(.bool false, .bool false)]) (by kernel_rfl) (fun β extra => by kernel_rfl) (by kernel_rfl) (fun β => ⟨rfl, trivial⟩)⟩,
                                          tri_quietW (fun β => []) [] [] (fun β => []) (by kernel_rfl) (fun β extra => by kernel_rfl) (by kernel_rfl) (fun β => trivial)⟩,
                                          tri_quietW (fun β => []) [] [] (fun β => []) (by kernel_rfl) (fun β extra => by kernel_rfl) (by kernel_rfl) (fun β => trivial)⟩,
                                          tri_quietW (fun β => [(218, .bool true)]) [] [] (fun β => [(.bool (fe == 0), .bool true)]) (by kernel_rfl) (fun β extra => by kernel_rfl) (by kernel_rfl) (fun β => ⟨(bo hd5), trivial⟩)⟩,
                                          tri_quietW (fun β => []) [] [] (fun β => []) (by kernel_rfl) (fun β extra => by kernel_rfl) (by kernel_rfl) (fun β => trivial)⟩,
                                          tri_quietW (fun β => []) [] [] (fun β => []) (by kernel_rfl) (fun β extra => by kernel_rfl) (by kernel_rfl) (fun β => trivial)⟩,
                                          tri_quietW (fun β => []) [] [] (fun β => []) (by kernel_rfl) (fun β extra => by kernel_rfl) (by kernel_rfl) (fun β => trivial)⟩,
                                          tri_vVW (fun β => .pointer (some ⟨rg2, t * 2, none⟩)) (fun β => by kernel_rfl) (fun β => (Instr.indexAt 38 (sV rg2 Ls.length rc2) (iV (t : Int)) >>= fun v => pure (Next.value v))) (by kernel_rfl) (fun β extra => by kernel_rfl) (fun β => by kernel_rfl) (fun β w1 k1 h1 => idx_off (e := 23) (n := 2) (by kernel_rfl) (by kernel_rfl) rg2 (0) Ls.length rc2 .i64 t (by omega) (t * 2) (by omega) w1)⟩,
                                          tri_quietW (fun β => []) [] [] (fun β => []) (by kernel_rfl) (fun β extra => by kernel_rfl) (by kernel_rfl) (fun β => trivial)⟩,
                                          tri_vVW (fun β => iV (elS Ls t).1) (fun β => by kernel_rfl) (fun β => (Instr.loadAt 3 (.pointer (some ⟨rg2, t * 2, none⟩)) >>= fun v => pure (Next.value v))) (by kernel_rfl) (fun β extra => by kernel_rfl) (fun β => by kernel_rfl) (fun β w1 k1 h1 => load_own (e := 23) (fr := (0, 0)) (c := (Ls).flatMap spR ++ rsp2) h1 (List.mem_of_getElem? (i := 0) (by kernel_rfl)) (flat_loadF (c := spR) (n := 2) spR_len (by kernel_rfl) (i := t) (k := 0) (by first | omega | (simp; omega)) (by rw [spR_at (by first | omega | (simp; omega))]; rfl) (by omega)))⟩,
                                          tri_quietW (fun β => []) [] [] (fun β => []) (by kernel_rfl) (fun β extra => by kernel_rfl) (by kernel_rfl) (fun β => trivial)⟩,
                                          tri_quietW (fun β => [(226, .bool true)]) [] [] (fun β => [(.bool ((elS Ls t).1 != fv), .bool true)]) (by kernel_rfl) (fun β extra => by kernel_rfl) (by kernel_rfl) (fun β => ⟨(bo hd8), trivial⟩)⟩,
                                          tri_quietW (fun β => []) [] [] (fun β => []) (by kernel_rfl) (fun β extra => by kernel_rfl) (by kernel_rfl) (fun β => trivial)⟩,
                                          tri_quietW (fun β => []) [] [] (fun β => []) (by kernel_rfl) (fun β extra => by kernel_rfl) (by kernel_rfl) (fun β => trivial)⟩
                                          (fun β => ⟨[(2, pA b1), (4, .bool false), (10, iV av), (11, iV ae), (228, .bool true)], [(b1, aO #[.slice p.ba p.bs.length p.bc, iV p.near, iV p.last, .slice p.ta p.ts.length p.tc] 33)]⟩) (fun β => by kernel_rfl) (fun β3 => ?_)
                    refine run_auto [] 5 [true] [] [2, 4, 10, 11] [0] (st' := ⟨[(2, pA b1), (4, .bool false), (10, iV av), (11, iV ae)], [(b1, aO #[.slice p.ba p.bs.length p.bc, iV p.near, iV p.last, .slice p.ta p.ts.length p.tc] 33)]⟩) (acc := [(.bool true, .bool true)]) (by kernel_rfl) (by kernel_rfl) ⟨rfl, trivial⟩ ?_
                    refine run_end (fn := f6) rfl (Nat.le_refl _) (by kernel_rfl) [] [.bool false] (e := []) (by kernel_rfl) trivial (fun w1 k1 h1 => ?_)
                    exfalso
                    omega
          | true =>
            have hp4 := of_decide_eq_true hd4
            have hm60 : m ≤ 60 := by omega
            obtain ⟨jv, hjv⟩ : ∃ x, p.n.judge b m = x := ⟨_, rfl⟩
            obtain ⟨hj1, hj2, hj3⟩ := jo_is hF hbl (m := m) (by omega) hjv
            have hob := out_bd hF hbl (m := m) (by omega)
            have hnn : p.n.near = p.near := rfl
            rw [hnn] at hj1 hj2
            have hasn := any_is hRs (m := m) (by omega)
            refine run_auto [(87, .bool true)] 19 [true] [1] [2, 4, 5, 6, 8, 9, 10, 11, 85, 86, 12, 90, 91, 92] [0, 1] (st' := ⟨[(2, pA b1), (4, .bool false), (5, iV (b : Int)), (6, sV rg2 Ls.length rc2), (8, iV fv), (9, iV fe), (10, iV av), (11, iV ae), (85, iV (p.last + 1)), (86, iV (m : Int)), (12, iV (m : Int)), (90, .agg #[.slice p.ba p.bs.length p.bc, iV p.near, iV p.last, .slice p.ta p.ts.length p.tc]), (91, iV (b : Int)), (92, iV (m : Int))], [(rg2, cO ((Ls).flatMap spR ++ rsp2) 23), (b1, aO #[.slice p.ba p.bs.length p.bc, iV p.near, iV p.last, .slice p.ta p.ts.length p.tc] 33)]⟩) (acc := [(pA b1, pA b1), (.bool true, .bool true), (.bool (decide ((m : Int) < (p.last + 1))), .bool true)]) (by kernel_rfl) (by kernel_rfl) ⟨rfl, rfl, (bo hd4), trivial⟩ ?_
            refine run_ret1 11 #[.agg #[.slice p.ba p.bs.length p.bc, iV p.near, iV p.last, .slice p.ta p.ts.length p.tc], iV (b : Int), iV (m : Int)] (some 93) (.tuple #[.agg #[iV (p.n.out b m).1, iV (p.n.out b m).2], iV 0]) (by kernel_rfl) (fun w1 k1 h1 => (by have h := Excess_any p (b : Int) (m : Int) w1 (hp.keep (k1.keeps (fun _ h => h))); rw [show excR p.n (b : Int) (m : Int) = .inr (p.n.out b m) from exc_is hok hbl (by show (m : Int) ≤ p.last; omega)] at h; exact h)) ?_
            refine run_auto [] 3 [] [] [2, 4, 5, 6, 8, 9, 10, 11, 85, 86, 12, 94, 95] [0, 1] (st' := ⟨[(2, pA b1), (4, .bool false), (5, iV (b : Int)), (6, sV rg2 Ls.length rc2), (8, iV fv), (9, iV fe), (10, iV av), (11, iV ae), (85, iV (p.last + 1)), (86, iV (m : Int)), (12, iV (m : Int)), (94, .agg #[iV (p.n.out b m).1, iV (p.n.out b m).2]), (95, iV 0)], [(rg2, cO ((Ls).flatMap spR ++ rsp2) 23), (b1, aO #[.slice p.ba p.bs.length p.bc, iV p.near, iV p.last, .slice p.ta p.ts.length p.tc] 33)]⟩) (acc := []) (by kernel_rfl) (by kernel_rfl) trivial ?_
            refine run_new (aO #[iV 0, iV 0] 23) (fun b3 => pA b3) (some 13) (fun _ => by kernel_rfl) (fun b3 hb3 => ?_)
            refine run_auto [] 8 [] [0, 2] [2, 4, 5, 6, 8, 9, 10, 11, 85, 86, 12, 13, 14, 97, 98, 99] [0, 1, 2] (st' := ⟨[(2, pA b1), (4, .bool false), (5, iV (b : Int)), (6, sV rg2 Ls.length rc2), (8, iV fv), (9, iV fe), (10, iV av), (11, iV ae), (85, iV (p.last + 1)), (86, iV (m : Int)), (12, iV (m : Int)), (13, pA b3), (14, iV 0), (97, .agg #[.slice p.ba p.bs.length p.bc, iV p.near, iV p.last, .slice p.ta p.ts.length p.tc]), (98, iV (b : Int)), (99, iV (m : Int))], [(b3, aO #[iV (p.n.out b m).1, iV (p.n.out b m).2] 23), (rg2, cO ((Ls).flatMap spR ++ rsp2) 23), (b1, aO #[.slice p.ba p.bs.length p.bc, iV p.near, iV p.last, .slice p.ta p.ts.length p.tc] 33)]⟩) (acc := [(pA b1, pA b1), (pA b3, pA b3)]) (by kernel_rfl) (by kernel_rfl) ⟨rfl, rfl, trivial⟩ ?_
            refine run_ret1 14 #[.agg #[.slice p.ba p.bs.length p.bc, iV p.near, iV p.last, .slice p.ta p.ts.length p.tc], iV (b : Int), iV (m : Int)] (some 100) (.tuple #[iV jv, iV 0]) (by kernel_rfl) (fun w1 k1 h1 => (by have h := Settled_any p (b : Int) (m : Int) w1 (hp.keep (k1.keeps (fun _ h => h))); rw [show setR p.n (b : Int) (m : Int) = .inr jv from (set_is hok hbl (by show (m : Int) ≤ p.last; omega)).trans (congrArg _ hjv)] at h; exact h)) ?_
            refine run_auto [] 8 [] [] [2, 4, 5, 6, 8, 9, 10, 11, 85, 86, 12, 13, 14, 15, 16] [0, 1, 2] (st' := ⟨[(2, pA b1), (4, .bool false), (5, iV (b : Int)), (6, sV rg2 Ls.length rc2), (8, iV fv), (9, iV fe), (10, iV av), (11, iV ae), (85, iV (p.last + 1)), (86, iV (m : Int)), (12, iV (m : Int)), (13, pA b3), (14, iV 0), (15, iV jv), (16, iV 0)], [(b3, aO #[iV (p.n.out b m).1, iV (p.n.out b m).2] 23), (rg2, cO ((Ls).flatMap spR ++ rsp2) 23), (b1, aO #[.slice p.ba p.bs.length p.bc, iV p.near, iV p.last, .slice p.ta p.ts.length p.tc] 33)]⟩) (acc := []) (by kernel_rfl) (by kernel_rfl) trivial ?_
            refine run_join (fun k => adv 46 [false] k) ⟨[(2, pA b1), (4, .bool false), (5, iV (b : Int)), (6, sV rg2 Ls.length rc2), (8, iV fv), (9, iV fe), (10, iV av), (11, iV ae), (85, iV (p.last + 1)), (86, iV (m : Int)), (12, iV (m : Int)), (15, iV jv)], [(rg2, cO ((Ls).flatMap spR ++ rsp2) 23), (b1, aO #[.slice p.ba p.bs.length p.bc, iV p.near, iV p.last, .slice p.ta p.ts.length p.tc] 33)]⟩ ?_ (fun hjoin14 => ?_)
            · skip
              refine run_auto [] 13 [] [] [2, 4, 5, 6, 8, 9, 10, 11, 85, 86, 12, 15, 17, 146, 147, 148] [0, 1] (st' := ⟨[(2, pA b1), (4, .bool false), (5, iV (b : Int)), (6, sV rg2 Ls.length rc2), (8, iV fv), (9, iV fe), (10, iV av), (11, iV ae), (85, iV (p.last + 1)), (86, iV (m : Int)), (12, iV (m : Int)), (15, iV jv), (17, .bool false), (146, sV rg2 Ls.length rc2), (147, iV (Ls.length : Int)), (148, iV 0)], [(rg2, cO ((Ls).flatMap spR ++ rsp2) 23), (b1, aO #[.slice p.ba p.bs.length p.bc, iV p.near, iV p.last, .slice p.ta p.ts.length p.tc] 33)]⟩) (acc := []) (by kernel_rfl) (by kernel_rfl) trivial ?_
              refine run_auto [] 0 [] [] [2, 4, 5, 6, 8, 9, 10, 11, 85, 86, 12, 15, 17, 146, 147, 148] [0, 1] (st' := ⟨[(2, pA b1), (4, .bool false), (5, iV (b : Int)), (6, sV rg2 Ls.length rc2), (8, iV fv), (9, iV fe), (10, iV av), (11, iV ae), (85, iV (p.last + 1)), (86, iV (m : Int)), (12, iV (m : Int)), (15, iV jv), (17, .bool false), (146, sV rg2 Ls.length rc2), (147, iV (Ls.length : Int)), (148, iV 0)], [(rg2, cO ((Ls).flatMap spR ++ rsp2) 23), (b1, aO #[.slice p.ba p.bs.length p.bc, iV p.near, iV p.last, .slice p.ta p.ts.length p.tc] 33)]⟩) (acc := []) (by kernel_rfl) (by kernel_rfl) trivial ?_
              refine run_loop (S := fun (v : Nat × Bool) => ⟨[(2, pA b1), (4, .bool false), (5, iV (b : Int)), (6, sV rg2 Ls.length rc2), (8, iV fv), (9, iV fe), (10, iV av), (11, iV ae), (85, iV (p.last + 1)), (86, iV (m : Int)), (12, iV (m : Int)), (15, iV jv), (17, .bool (bq v.2)), (146, sV rg2 Ls.length rc2), (147, iV (Ls.length : Int)), (148, iV (v.1 : Int))], [(rg2, cO ((Ls).flatMap spR ++ rsp2) 23), (b1, aO #[.slice p.ba p.bs.length p.bc, iV p.near, iV p.last, .slice p.ta p.ts.length p.tc] 33)]⟩) (fun v => v.1 ≤ Ls.length ∧ bq v.2 = inAny Ls (m : Int) v.1) (fun v => Ls.length - v.1) ((0, false)) (by kernel_rfl) (⟨Nat.zero_le _, rfl⟩) (by kernel_rfl) (fun v hI1 J1 hJ1 => ?_)
              obtain ⟨j, rs⟩ := v
              obtain ⟨hA1, hA2⟩ := hI1
              dsimp only at hA1 hA2
              cases hd5 : (decide ((j : Int) < (Ls.length : Int))) with
              | false =>
                have hp5 := of_decide_eq_false hd5
                have hrest : bq rs = (jv == 2) := by rw [hA2, show j = Ls.length by omega, hasn, hj3]
                cases hd6 : (bq rs) with
                | false =>
                  cases hd7 : (jv == 2) with
                  | false =>
                    have hp7 : ¬ jv = 2 := by simpa using hd7
                    refine run_auto [(149, .bool false), (195, .bool false), (196, .bool false), (197, iV ((m + 1 : Nat) : Int))] 21 [false, false] [] [2, 4, 5, 6, 8, 9, 10, 11, 85, 86] [0, 1] (st' := ⟨[(2, pA b1), (4, .bool false), (5, iV (b : Int)), (6, sV rg2 Ls.length rc2), (8, iV fv), (9, iV fe), (10, iV av), (11, iV ae), (85, iV (p.last + 1)), (86, iV ((m + 1 : Nat) : Int))], [(rg2, cO ((Ls).flatMap spR ++ rsp2) 23), (b1, aO #[.slice p.ba p.bs.length p.bc, iV p.near, iV p.last, .slice p.ta p.ts.length p.tc] 33)]⟩) (acc := [(iV (IntKind.i64.wrap ((m : Int) + 1)), iV ((m + 1 : Nat) : Int)), (.bool false, .bool false), (.bool false, .bool false), (.bool (jv == 2), .bool false), (.bool false, .bool false), (.bool (decide ((j : Int) < (Ls.length : Int))), .bool false)]) (by kernel_rfl) (by kernel_rfl) ⟨(wr (by omega) (by omega)), rfl, rfl, (bo hd7), rfl, (bo hd5), trivial⟩ ?_
                    exact run_round (by kernel_rfl) (hJ0 (m + 1) (by omega) (by omega))
                  | true =>
                    have hp7 : jv = 2 := by simpa using hd7
                    rw [hd6, hd7] at hrest
                    cases hrest
                | true =>
                  cases hd7 : (jv == 2) with
                  | false =>
                    have hp7 : ¬ jv = 2 := by simpa using hd7
                    rw [hd6, hd7] at hrest
                    cases hrest
                  | true =>
                    have hp7 : jv = 2 := by simpa using hd7
                    refine run_auto [(149, .bool false), (195, .bool true), (196, .bool false), (197, iV ((m + 1 : Nat) : Int))] 21 [false, false] [] [2, 4, 5, 6, 8, 9, 10, 11, 85, 86] [0, 1] (st' := ⟨[(2, pA b1), (4, .bool false), (5, iV (b : Int)), (6, sV rg2 Ls.length rc2), (8, iV fv), (9, iV fe), (10, iV av), (11, iV ae), (85, iV (p.last + 1)), (86, iV ((m + 1 : Nat) : Int))], [(rg2, cO ((Ls).flatMap spR ++ rsp2) 23), (b1, aO #[.slice p.ba p.bs.length p.bc, iV p.near, iV p.last, .slice p.ta p.ts.length p.tc] 33)]⟩) (acc := [(iV (IntKind.i64.wrap ((m : Int) + 1)), iV ((m + 1 : Nat) : Int)), (.bool false, .bool false), (.bool false, .bool false), (.bool (jv == 2), .bool true), (.bool false, .bool false), (.bool (decide ((j : Int) < (Ls.length : Int))), .bool false)]) (by kernel_rfl) (by kernel_rfl) ⟨(wr (by omega) (by omega)), rfl, rfl, (bo hd7), rfl, (bo hd5), trivial⟩ ?_
                    exact run_round (by kernel_rfl) (hJ0 (m + 1) (by omega) (by omega))
              | true =>
                have hp5 := of_decide_eq_true hd5
                have hjl : j < Ls.length := by omega
                have hbd := hRs.bd j hjl
                refine run_auto [(149, .bool true)] 12 [true] [] [2, 4, 5, 6, 8, 9, 10, 11, 85, 86, 12, 15, 17, 146, 147, 148, 150] [0, 1] (st' := ⟨[(2, pA b1), (4, .bool false), (5, iV (b : Int)), (6, sV rg2 Ls.length rc2), (8, iV fv), (9, iV fe), (10, iV av), (11, iV ae), (85, iV (p.last + 1)), (86, iV (m : Int)), (12, iV (m : Int)), (15, iV jv), (17, .bool (bq rs)), (146, sV rg2 Ls.length rc2), (147, iV (Ls.length : Int)), (148, iV (j : Int)), (150, iV (j : Int))], [(rg2, cO ((Ls).flatMap spR ++ rsp2) 23), (b1, aO #[.slice p.ba p.bs.length p.bc, iV p.near, iV p.last, .slice p.ta p.ts.length p.tc] 33)]⟩) (acc := [(.bool true, .bool true), (.bool (decide ((j : Int) < (Ls.length : Int))), .bool true)]) (by kernel_rfl) (by kernel_rfl) ⟨rfl, (bo hd5), trivial⟩ ?_
                refine run_v (Instr.indexAt 38 (sV rg2 Ls.length rc2) (iV (j : Int)) >>= fun v => pure (Next.value v)) (some 151) (.pointer (some ⟨rg2, j * 2, none⟩)) (by kernel_rfl) (fun w1 k1 h1 => idx_off (e := 23) (n := 2) (by kernel_rfl) (by kernel_rfl) rg2 (0) Ls.length rc2 .i64 j (by omega) (j * 2) (by omega) w1) ?_
                refine run_v (Instr.loadAt 23 (.pointer (some ⟨rg2, j * 2, none⟩)) >>= fun v => pure (Next.value v)) (some 152) (.agg #[iV (elS Ls j).1, iV (elS Ls j).2]) (by kernel_rfl) (fun w1 k1 h1 => load_own (e := 23) (fr := (0, 0)) (c := (Ls).flatMap spR ++ rsp2) h1 (List.mem_of_getElem? (i := 0) (by kernel_rfl)) ((flat_loadS (c := spR) (n := 2) spR_len (by kernel_rfl) (by kernel_rfl) (i := j) (by first | omega | (simp; omega))).trans (by rw [spR_at (by first | omega | (simp; omega))]; rfl))) ?_
                refine run_new (aO #[iV 0, iV 0] 23) (fun b4 => pA b4) (some 19) (fun _ => by kernel_rfl) (fun b4 hb4 => ?_)
                refine run_auto [] 5 [] [0] [2, 4, 5, 6, 8, 9, 10, 11, 85, 86, 12, 15, 17, 146, 147, 148, 19, 18] [0, 1, 2] (st' := ⟨[(2, pA b1), (4, .bool false), (5, iV (b : Int)), (6, sV rg2 Ls.length rc2), (8, iV fv), (9, iV fe), (10, iV av), (11, iV ae), (85, iV (p.last + 1)), (86, iV (m : Int)), (12, iV (m : Int)), (15, iV jv), (17, .bool (bq rs)), (146, sV rg2 Ls.length rc2), (147, iV (Ls.length : Int)), (148, iV (j : Int)), (19, pA b4), (18, iV (j : Int))], [(b4, aO #[iV (elS Ls j).1, iV (elS Ls j).2] 23), (rg2, cO ((Ls).flatMap spR ++ rsp2) 23), (b1, aO #[.slice p.ba p.bs.length p.bc, iV p.near, iV p.last, .slice p.ta p.ts.length p.tc] 33)]⟩) (acc := [(pA b4, pA b4)]) (by kernel_rfl) (by kernel_rfl) ⟨rfl, trivial⟩ ?_
                cases hd6 : (decide ((elS Ls j).2 < (elS Ls j).1)) with
                | false =>
                  have hp6 := of_decide_eq_false hd6
                  cases hd7 : (decide ((elS Ls j).1 < 0)) with
                  | false =>
                    have hp7 := of_decide_eq_false hd7
                    cases hd8 : (decide (p.last < (elS Ls j).2)) with
                    | false =>
                      have hp8 := of_decide_eq_false hd8
                      cases hd9 : (decide (0 < (j : Int))) with
                      | false =>
                        have hp9 := of_decide_eq_false hd9
                        refine drawW 33 [{ val := fun _ => pA b4, slots := [19] },
                                                  { val := fun _ => iV (elS Ls j).1, slots := [153], reads := [0] },
                                                  { val := fun _ => .pointer (some ⟨b4, 1, none⟩), slots := [19] },
                                                  { val := fun _ => iV (elS Ls j).2, slots := [155], reads := [0] },
                                                  { val := fun _ => .bool false, slots := [154, 156] },
                                                  { val := fun _ => .bool false, slots := [157] },
                                                  { val := fun _ => pA b4, slots := [19, 158] },
                                                  { val := fun _ => iV (elS Ls j).1, slots := [158, 159], reads := [0] },
                                                  { val := fun _ => .bool false, slots := [158, 160] },
                                                  { val := fun _ => .bool false, slots := [158, 161] },
                                                  { val := fun _ => .bool false, slots := [162] },
                                                  { val := fun _ => .pointer (some ⟨b4, 1, none⟩), slots := [19, 163] },
                                                  { val := fun _ => iV (elS Ls j).2, slots := [163, 164], reads := [0] },
                                                  { val := fun _ => .pointer (some ⟨b1, 2, none⟩), slots := [2, 163] },
                                                  { val := fun _ => iV p.last, slots := [163, 166], reads := [2] },
                                                  { val := fun _ => .bool false, slots := [163, 165, 167] },
                                                  { val := fun _ => .bool false, slots := [163, 168] },
                                                  { val := fun _ => .bool false, slots := [169] },
                                                  { val := fun _ => iV (j : Int), slots := [18, 170] },
                                                  { val := fun _ => .bool false, slots := [170, 171] },
                                                  { val := fun _ => .bool false, slots := [170, 172] },
                                                  { slots := [173] },
                                                  { slots := [173] },
                                                  { slots := [173] },
                                                  { slots := [173] },
                                                  { slots := [173] },
                                                  { slots := [173] },
                                                  { slots := [173] },
                                                  { slots := [173] },
                                                  { slots := [173] },
                                                  { slots := [173] },
                                                  { val := fun _ => .bool false, slots := [170, 173, 183] },
                                                  { val := fun _ => .bool false, slots := [170, 184] }] [[], [0], [], [2], [0, 1, 2, 3], [0, 1, 2, 3, 4], [0, 1, 2, 3, 4, 5], [0, 1, 2, 3, 4, 5, 6], [0, 1, 2, 3, 4, 5, 6, 7], [0, 1, 2, 3, 4, 5, 6, 7, 8], [0, 1, 2, 3, 4, 5, 6, 7, 8, 9], [0, 1, 2, 3, 4, 5, 6, 7, 8, 9, 10], [0, 1, 2, 3, 4, 5, 6, 7, 8, 9, 10, 11], [0, 1, 2, 3, 4, 5, 6, 7, 8, 9, 10], [0, 1, 2, 3, 4, 5, 6, 7, 8, 9, 10, 13], [0, 1, 2, 3, 4, 5, 6, 7, 8, 9, 10, 11, 12, 13, 14], [0, 1, 2, 3, 4, 5, 6, 7, 8, 9, 10, 11, 12, 13, 14, 15], [0, 1, 2, 3, 4, 5, 6, 7, 8, 9, 10, 11, 12, 13, 14, 15, 16], [0, 1, 2, 3, 4, 5, 6, 7, 8, 9, 10, 11, 12, 13, 14, 15, 16, 17], [0, 1, 2, 3, 4, 5, 6, 7, 8, 9, 10, 11, 12, 13, 14, 15, 16, 17, 18], [0, 1, 2, 3, 4, 5, 6, 7, 8, 9, 10, 11, 12, 13, 14, 15, 16, 17, 18, 19], [0, 1, 2, 3, 4, 5, 6, 7, 8, 9, 10, 11, 12, 13, 14, 15, 16, 17, 18, 19, 20], [0, 1, 2, 3, 4, 5, 6, 7, 8, 9, 10, 11, 12, 13, 14, 15, 16, 17, 18, 19, 20, 21], [0, 1, 2, 3, 4, 5, 6, 7, 8, 9, 10, 11, 12, 13, 14, 15, 16, 17, 18, 19, 20], [0, 1, 2, 3, 4, 5, 6, 7, 8, 9, 10, 11, 12, 13, 14, 15, 16, 17, 18, 19, 20], [0, 1, 2, 3, 4, 5, 6, 7, 8, 9, 10, 11, 12, 13, 14, 15, 16, 17, 18, 19, 20, 24], [0, 1, 2, 3, 4, 5, 6, 7, 8, 9, 10, 11, 12, 13, 14, 15, 16, 17, 18, 19, 20, 23, 24, 25], [0, 1, 2, 3, 4, 5, 6, 7, 8, 9, 10, 11, 12, 13, 14, 15, 16, 17, 18, 19, 20, 23, 24, 25, 26], [0, 1, 2, 3, 4, 5, 6, 7, 8, 9, 10, 11, 12, 13, 14, 15, 16, 17, 18, 19, 20, 23, 24, 25, 26, 27], [0, 1, 2, 3, 4, 5, 6, 7, 8, 9, 10, 11, 12, 13, 14, 15, 16, 17, 18, 19, 20, 23, 24, 25, 26, 27, 28], [0, 1, 2, 3, 4, 5, 6, 7, 8, 9, 10, 11, 12, 13, 14, 15, 16, 17, 18, 19, 20, 21, 22, 23, 24, 25, 26, 27, 28, 29], [0, 1, 2, 3, 4, 5, 6, 7, 8, 9, 10, 11, 12, 13, 14, 15, 16, 17, 18, 19, 20, 21, 22, 23, 24, 25, 26, 27, 28, 29, 30], [0, 1, 2, 3, 4, 5, 6, 7, 8, 9, 10, 11, 12, 13, 14, 15, 16, 17, 18, 19, 20, 21, 22, 23, 24, 25, 26, 27, 28, 29, 30, 31]] (by kernel_rfl) (by kernel_rfl) (by kernel_rfl) (by kernel_rfl) [2, 4, 5, 6, 8, 9, 10, 11, 85, 86, 12, 15, 17, 146, 147, 148, 19, 185] [0, 1, 2] (by kernel_rfl)
                                                  ⟨⟨⟨⟨⟨⟨⟨⟨⟨⟨⟨⟨⟨⟨⟨⟨⟨⟨⟨⟨⟨⟨⟨⟨⟨⟨⟨⟨⟨⟨⟨⟨⟨trivial,
                                                  tri_quietW (fun β => []) [] [] (fun β => []) (by kernel_rfl) (fun β extra => by kernel_rfl) (by kernel_rfl) (fun β => trivial)⟩,
                                                  tri_quietW (fun β => []) [0] [0] (fun β => [(pA b4, pA b4)]) (by kernel_rfl) (fun β extra => by kernel_rfl) (by kernel_rfl) (fun β => ⟨rfl, trivial⟩)⟩,
                                                  tri_quietW (fun β => []) [] [] (fun β => []) (by kernel_rfl) (fun β extra => by kernel_rfl) (by kernel_rfl) (fun β => trivial)⟩,
                                                  tri_quietW (fun β => []) [0] [0] (fun β => [(pA b4, pA b4)]) (by kernel_rfl) (fun β extra => by kernel_rfl) (by kernel_rfl) (fun β => ⟨rfl, trivial⟩)⟩,
                                                  tri_quietW (fun β => [(157, .bool false)]) [] [] (fun β => [(.bool (decide ((elS Ls j).2 < (elS Ls j).1)), .bool false)]) (by kernel_rfl) (fun β extra => by kernel_rfl) (by kernel_rfl) (fun β => ⟨(bo hd6), trivial⟩)⟩,
                                                  tri_quietW (fun β => []) [] [] (fun β => []) (by kernel_rfl) (fun β extra => by kernel_rfl) (by kernel_rfl) (fun β => trivial)⟩,
                                                  tri_quietW (fun β => []) [] [] (fun β => []) (by kernel_rfl) (fun β extra => by kernel_rfl) (by kernel_rfl) (fun β => trivial)⟩,
                                                  tri_quietW (fun β => []) [0] [0] (fun β => [(pA b4, pA b4)]) (by kernel_rfl) (fun β extra => by kernel_rfl) (by kernel_rfl) (fun β => ⟨rfl, trivial⟩)⟩,
                                                  tri_quietW (fun β => [(161, .bool false)]) [] [] (fun β => [(.bool (decide ((elS Ls j).1 < 0)), .bool false)]) (by kernel_rfl) (fun β extra => by kernel_rfl) (by kernel_rfl) (fun β => ⟨(bo hd7), trivial⟩)⟩,
                                                  tri_quietW (fun β => []) [] [] (fun β => []) (by kernel_rfl) (fun β extra => by kernel_rfl) (by kernel_rfl) (fun β => trivial)⟩,
                                                  tri_quietW (fun β => []) [] [] (fun β => []) (by kernel_rfl) (fun β extra => by kernel_rfl) (by kernel_rfl) (fun β => trivial)⟩,
                                                  tri_quietW (fun β => []) [] [] (fun β => []) (by kernel_rfl) (fun β extra => by kernel_rfl) (by kernel_rfl) (fun β => trivial)⟩,
                                                  tri_quietW (fun β => []) [0] [0] (fun β => [(pA b4, pA b4)]) (by kernel_rfl) (fun β extra => by kernel_rfl) (by kernel_rfl) (fun β => ⟨rfl, trivial⟩)⟩,
                                                  tri_quietW (fun β => []) [] [] (fun β => []) (by kernel_rfl) (fun β extra => by kernel_rfl) (by kernel_rfl) (fun β => trivial)⟩,
                                                  tri_quietW (fun β => []) [0] [0] (fun β => [(pA b1, pA b1)]) (by kernel_rfl) (fun β extra => by kernel_rfl) (by kernel_rfl) (fun β => ⟨rfl, trivial⟩)⟩,
                                                  tri_quietW (fun β => [(168, .bool false)]) [] [] (fun β => [(.bool (decide (p.last < (elS Ls j).2)), .bool false)]) (by kernel_rfl) (fun β extra => by kernel_rfl) (by kernel_rfl) (fun β => ⟨(bo hd8), trivial⟩)⟩,
                                                  tri_quietW (fun β => []) [] [] (fun β => []) (by kernel_rfl) (fun β extra => by kernel_rfl) (by kernel_rfl) (fun β => trivial)⟩,
                                                  tri_quietW (fun β => []) [] [] (fun β => []) (by kernel_rfl) (fun β extra => by kernel_rfl) (by kernel_rfl) (fun β => trivial)⟩,
                                                  tri_quietW (fun β => []) [] [] (fun β => []) (by kernel_rfl) (fun β extra => by kernel_rfl) (by kernel_rfl) (fun β => trivial)⟩,
                                                  tri_quietW (fun β => [(172, .bool false)]) [] [] (fun β => [(.bool (decide (0 < (j : Int))), .bool false)]) (by kernel_rfl) (fun β extra => by kernel_rfl) (by kernel_rfl) (fun β => ⟨(bo hd9), trivial⟩)⟩,
                                                  tri_quietW (fun β => []) [] [] (fun β => []) (by kernel_rfl) (fun β extra => by kernel_rfl) (by kernel_rfl) (fun β => trivial)⟩,
                                                  tri_quietW (fun β => []) [] [] (fun β => []) (by kernel_rfl) (fun β extra => by kernel_rfl) (by kernel_rfl) (fun β => trivial)⟩,
                                                  tri_quietW (fun β => []) [] [] (fun β => []) (by kernel_rfl) (fun β extra => by kernel_rfl) (by kernel_rfl) (fun β => trivial)⟩,
                                                  tri_quietW (fun β => []) [] [] (fun β => []) (by kernel_rfl) (fun β extra => by kernel_rfl) (by kernel_rfl) (fun β => trivial)⟩,
                                                  tri_quietW (fun β => []) [] [] (fun β => []) (by kernel_rfl) (fun β extra => by kernel_rfl) (by kernel_rfl) (fun β => trivial)⟩,
                                                  tri_quietW (fun β => []) [] [] (fun β => []) (by kernel_rfl) (fun β extra => by kernel_rfl) (by kernel_rfl) (fun β => trivial)⟩,
                                                  tri_quietW (fun β => []) [] [] (fun β => []) (by kernel_rfl) (fun β extra => by kernel_rfl) (by kernel_rfl) (fun β => trivial)⟩,
                                                  tri_quietW (fun β => []) [] [] (fun β => []) (by kernel_rfl) (fun β extra => by kernel_rfl) (by kernel_rfl) (fun β => trivial)⟩,
                                                  tri_quietW (fun β => []) [] [] (fun β => []) (by kernel_rfl) (fun β extra => by kernel_rfl) (by kernel_rfl) (fun β => trivial)⟩,
                                                  tri_quietW (fun β => []) [] [] (fun β => []) (by kernel_rfl) (fun β extra => by kernel_rfl) (by kernel_rfl) (fun β => trivial)⟩,
                                                  tri_quietW (fun β => []) [] [] (fun β => []) (by kernel_rfl) (fun β extra => by kernel_rfl) (by kernel_rfl) (fun β => trivial)⟩,
                                                  tri_quietW (fun β => []) [] [] (fun β => []) (by kernel_rfl) (fun β extra => by kernel_rfl) (by kernel_rfl) (fun β => trivial)⟩,
                                                  tri_quietW (fun β => []) [] [] (fun β => []) (by kernel_rfl) (fun β extra => by kernel_rfl) (by kernel_rfl) (fun β => trivial)⟩
                                                  (fun β => ⟨[(2, pA b1), (4, .bool false), (5, iV (b : Int)), (6, sV rg2 Ls.length rc2), (8, iV fv), (9, iV fe), (10, iV av), (11, iV ae), (85, iV (p.last + 1)), (86, iV (m : Int)), (12, iV (m : Int)), (15, iV jv), (17, .bool (bq rs)), (146, sV rg2 Ls.length rc2), (147, iV (Ls.length : Int)), (148, iV (j : Int)), (19, pA b4), (185, .bool false)], [(b4, aO #[iV (elS Ls j).1, iV (elS Ls j).2] 23), (rg2, cO ((Ls).flatMap spR ++ rsp2) 23), (b1, aO #[.slice p.ba p.bs.length p.bc, iV p.near, iV p.last, .slice p.ta p.ts.length p.tc] 33)]⟩) (fun β => by kernel_rfl) (fun β5 => ?_)
                        cases hd10 : (bq rs) with
                        | false =>
                          refine run_auto [] 7 [false] [0] [2, 4, 5, 6, 8, 9, 10, 11, 85, 86, 12, 15, 17, 146, 147, 148, 187, 188, 189] [1, 2] (st' := ⟨[(2, pA b1), (4, .bool false), (5, iV (b : Int)), (6, sV rg2 Ls.length rc2), (8, iV fv), (9, iV fe), (10, iV av), (11, iV ae), (85, iV (p.last + 1)), (86, iV (m : Int)), (12, iV (m : Int)), (15, iV jv), (17, .bool false), (146, sV rg2 Ls.length rc2), (147, iV (Ls.length : Int)), (148, iV (j : Int)), (187, .bool false), (188, iV (m : Int)), (189, .agg #[iV (elS Ls j).1, iV (elS Ls j).2])], [(rg2, cO ((Ls).flatMap spR ++ rsp2) 23), (b1, aO #[.slice p.ba p.bs.length p.bc, iV p.near, iV p.last, .slice p.ta p.ts.length p.tc] 33)]⟩) (acc := [(pA b4, pA b4), (.bool false, .bool false)]) (by kernel_rfl) (by kernel_rfl) ⟨rfl, rfl, trivial⟩ ?_
                          cases hd11 : (inB (m : Int) (elS Ls j)) with
                          | false =>
                            refine run_ret1 25 #[iV (m : Int), .agg #[iV (elS Ls j).1, iV (elS Ls j).2]] (some 190) (.bool false) (by kernel_rfl) (fun w1 k1 h1 => (by have h := inside_any (m : Int) (elS Ls j) w1; rw [hd11] at h; exact h)) ?_
                            refine run_auto [(192, iV ((j + 1 : Nat) : Int))] 8 [] [] [2, 4, 5, 6, 8, 9, 10, 11, 85, 86, 12, 15, 17, 146, 147, 148] [0, 1] (st' := ⟨[(2, pA b1), (4, .bool false), (5, iV (b : Int)), (6, sV rg2 Ls.length rc2), (8, iV fv), (9, iV fe), (10, iV av), (11, iV ae), (85, iV (p.last + 1)), (86, iV (m : Int)), (12, iV (m : Int)), (15, iV jv), (17, .bool false), (146, sV rg2 Ls.length rc2), (147, iV (Ls.length : Int)), (148, iV ((j + 1 : Nat) : Int))], [(rg2, cO ((Ls).flatMap spR ++ rsp2) 23), (b1, aO #[.slice p.ba p.bs.length p.bc, iV p.near, iV p.last, .slice p.ta p.ts.length p.tc] 33)]⟩) (acc := [(iV (IntKind.i64.wrap ((j : Int) + 1)), iV ((j + 1 : Nat) : Int))]) (by kernel_rfl) (by kernel_rfl) ⟨(wr (by omega) (by omega)), trivial⟩ ?_
                            exact run_round (by kernel_rfl) (hJ1 ((j + 1, false)) (⟨by dsimp only; omega, by show false = (inAny Ls (m : Int) j || inB (m : Int) (elS Ls j)); rw [← hA2, hd10, hd11]; rfl⟩) (by dsimp only; omega))
                          | true =>
                            refine run_ret1 25 #[iV (m : Int), .agg #[iV (elS Ls j).1, iV (elS Ls j).2]] (some 190) (.bool true) (by kernel_rfl) (fun w1 k1 h1 => (by have h := inside_any (m : Int) (elS Ls j) w1; rw [hd11] at h; exact h)) ?_
                            refine run_auto [(192, iV ((j + 1 : Nat) : Int))] 8 [] [] [2, 4, 5, 6, 8, 9, 10, 11, 85, 86, 12, 15, 17, 146, 147, 148] [0, 1] (st' := ⟨[(2, pA b1), (4, .bool false), (5, iV (b : Int)), (6, sV rg2 Ls.length rc2), (8, iV fv), (9, iV fe), (10, iV av), (11, iV ae), (85, iV (p.last + 1)), (86, iV (m : Int)), (12, iV (m : Int)), (15, iV jv), (17, .bool true), (146, sV rg2 Ls.length rc2), (147, iV (Ls.length : Int)), (148, iV ((j + 1 : Nat) : Int))], [(rg2, cO ((Ls).flatMap spR ++ rsp2) 23), (b1, aO #[.slice p.ba p.bs.length p.bc, iV p.near, iV p.last, .slice p.ta p.ts.length p.tc] 33)]⟩) (acc := [(iV (IntKind.i64.wrap ((j : Int) + 1)), iV ((j + 1 : Nat) : Int))]) (by kernel_rfl) (by kernel_rfl) ⟨(wr (by omega) (by omega)), trivial⟩ ?_
                            exact run_round (by kernel_rfl) (hJ1 ((j + 1, true)) (⟨by dsimp only; omega, by show true = (inAny Ls (m : Int) j || inB (m : Int) (elS Ls j)); rw [← hA2, hd10, hd11]; rfl⟩) (by dsimp only; omega))
                        | true =>
                          refine run_auto [(192, iV ((j + 1 : Nat) : Int))] 16 [false] [] [2, 4, 5, 6, 8, 9, 10, 11, 85, 86, 12, 15, 17, 146, 147, 148] [1, 2] (st' := ⟨[(2, pA b1), (4, .bool false), (5, iV (b : Int)), (6, sV rg2 Ls.length rc2), (8, iV fv), (9, iV fe), (10, iV av), (11, iV ae), (85, iV (p.last + 1)), (86, iV (m : Int)), (12, iV (m : Int)), (15, iV jv), (17, .bool true), (146, sV rg2 Ls.length rc2), (147, iV (Ls.length : Int)), (148, iV ((j + 1 : Nat) : Int))], [(rg2, cO ((Ls).flatMap spR ++ rsp2) 23), (b1, aO #[.slice p.ba p.bs.length p.bc, iV p.near, iV p.last, .slice p.ta p.ts.length p.tc] 33)]⟩) (acc := [(iV (IntKind.i64.wrap ((j : Int) + 1)), iV ((j + 1 : Nat) : Int)), (.bool false, .bool false)]) (by kernel_rfl) (by kernel_rfl) ⟨(wr (by omega) (by omega)), rfl, trivial⟩ ?_
                          exact run_round (by kernel_rfl) (hJ1 ((j + 1, true)) (⟨by dsimp only; omega, by show true = (inAny Ls (m : Int) j || inB (m : Int) (elS Ls j)); rw [← hA2, hd10]; rfl⟩) (by dsimp only; omega))
                      | true =>
                        have hp9 := of_decide_eq_true hd9
                        obtain ⟨i1, hi1⟩ : ∃ i1, j = i1 + 1 := ⟨j - 1, by omega⟩
                        have hgap := hRs.gap i1 (by omega)
                        rw [← hi1] at hgap
                        have hbd1 := hRs.bd i1 (by omega)
                        cases hd10 : (decide ((elS Ls j).1 ≤ ((elS Ls i1).2 + 1))) with
                        | false =>
                          have hp10 := of_decide_eq_false hd10
                          refine drawW 33 [{ val := fun _ => pA b4, slots := [19] },
                                                      { val := fun _ => iV (elS Ls j).1, slots := [153], reads := [0] },
                                                      { val := fun _ => .pointer (some ⟨b4, 1, none⟩), slots := [19] },
                                                      { val := fun _ => iV (elS Ls j).2, slots := [155], reads := [0] },
                                                      { val := fun _ => .bool false, slots := [154, 156] },
                                                      { val := fun _ => .bool false, slots := [157] },
                                                      { val := fun _ => pA b4, slots := [19, 158] },
                                                      { val := fun _ => iV (elS Ls j).1, slots := [158, 159], reads := [0] },
                                                      { val := fun _ => .bool false, slots := [158, 160] },
                                                      { val := fun _ => .bool false, slots := [158, 161] },
                                                      { val := fun _ => .bool false, slots := [162] },
                                                      { val := fun _ => .pointer (some ⟨b4, 1, none⟩), slots := [19, 163] },
                                                      { val := fun _ => iV (elS Ls j).2, slots := [163, 164], reads := [0] },
                                                      { val := fun _ => .pointer (some ⟨b1, 2, none⟩), slots := [2, 163] },
                                                      { val := fun _ => iV p.last, slots := [163, 166], reads := [2] },
                                                      { val := fun _ => .bool false, slots := [163, 165, 167] },
                                                      { val := fun _ => .bool false, slots := [163, 168] },
                                                      { val := fun _ => .bool false, slots := [169] },
                                                      { val := fun _ => iV (j : Int), slots := [18, 170] },
                                                      { val := fun _ => .bool true, slots := [170, 171] },
                                                      { val := fun _ => .bool true, slots := [170, 172] },
                                                      { val := fun _ => pA b4, slots := [19, 173] },
                                                      { val := fun _ => iV (elS Ls j).1, slots := [173, 174], reads := [0] },
                                                      { val := fun _ => sV rg2 Ls.length rc2, slots := [6, 173] },
                                                      { val := fun _ => iV (j : Int), slots := [18, 173] },
                                                      { val := fun _ => iV (i1 : Int), slots := [173, 177] },
                                                      { val := fun _ => .pointer (some ⟨rg2, i1 * 2, none⟩), slots := [173, 176, 178] },
                                                      { val := fun _ => .pointer (some ⟨rg2, i1 * 2 + 1, none⟩), slots := [173, 179] },
                                                      { val := fun _ => iV (elS Ls i1).2, slots := [173, 180], reads := [1] },
                                                      { val := fun _ => iV ((elS Ls i1).2 + 1), slots := [173, 181] },
                                                      { val := fun _ => .bool false, slots := [173, 175, 182] },
                                                      { val := fun _ => .bool false, slots := [170, 173, 183] },
                                                      { val := fun _ => .bool false, slots := [170, 184] }] [[], [0], [], [2], [0, 1, 2, 3], [0, 1, 2, 3, 4], [0, 1, 2, 3, 4, 5], [0, 1, 2, 3, 4, 5, 6], [0, 1, 2, 3, 4, 5, 6, 7], [0, 1, 2, 3, 4, 5, 6, 7, 8], [0, 1, 2, 3, 4, 5, 6, 7, 8, 9], [0, 1, 2, 3, 4, 5, 6, 7, 8, 9, 10], [0, 1, 2, 3, 4, 5, 6, 7, 8, 9, 10, 11], [0, 1, 2, 3, 4, 5, 6, 7, 8, 9, 10], [0, 1, 2, 3, 4, 5, 6, 7, 8, 9, 10, 13], [0, 1, 2, 3, 4, 5, 6, 7, 8, 9, 10, 11, 12, 13, 14], [0, 1, 2, 3, 4, 5, 6, 7, 8, 9, 10, 11, 12, 13, 14, 15], [0, 1, 2, 3, 4, 5, 6, 7, 8, 9, 10, 11, 12, 13, 14, 15, 16], [0, 1, 2, 3, 4, 5, 6, 7, 8, 9, 10, 11, 12, 13, 14, 15, 16, 17], [0, 1, 2, 3, 4, 5, 6, 7, 8, 9, 10, 11, 12, 13, 14, 15, 16, 17, 18], [0, 1, 2, 3, 4, 5, 6, 7, 8, 9, 10, 11, 12, 13, 14, 15, 16, 17, 18, 19], [0, 1, 2, 3, 4, 5, 6, 7, 8, 9, 10, 11, 12, 13, 14, 15, 16, 17, 18, 19, 20], [0, 1, 2, 3, 4, 5, 6, 7, 8, 9, 10, 11, 12, 13, 14, 15, 16, 17, 18, 19, 20, 21], [0, 1, 2, 3, 4, 5, 6, 7, 8, 9, 10, 11, 12, 13, 14, 15, 16, 17, 18, 19, 20], [0, 1, 2, 3, 4, 5, 6, 7, 8, 9, 10, 11, 12, 13, 14, 15, 16, 17, 18, 19, 20], [0, 1, 2, 3, 4, 5, 6, 7, 8, 9, 10, 11, 12, 13, 14, 15, 16, 17, 18, 19, 20, 24], [0, 1, 2, 3, 4, 5, 6, 7, 8, 9, 10, 11, 12, 13, 14, 15, 16, 17, 18, 19, 20, 23, 24, 25], [0, 1, 2, 3, 4, 5, 6, 7, 8, 9, 10, 11, 12, 13, 14, 15, 16, 17, 18, 19, 20, 23, 24, 25, 26], [0, 1, 2, 3, 4, 5, 6, 7, 8, 9, 10, 11, 12, 13, 14, 15, 16, 17, 18, 19, 20, 23, 24, 25, 26, 27], [0, 1, 2, 3, 4, 5, 6, 7, 8, 9, 10, 11, 12, 13, 14, 15, 16, 17, 18, 19, 20, 23, 24, 25, 26, 27, 28], [0, 1, 2, 3, 4, 5, 6, 7, 8, 9, 10, 11, 12, 13, 14, 15, 16, 17, 18, 19, 20, 21, 22, 23, 24, 25, 26, 27, 28, 29], [0, 1, 2, 3, 4, 5, 6, 7, 8, 9, 10, 11, 12, 13, 14, 15, 16, 17, 18, 19, 20, 21, 22, 23, 24, 25, 26, 27, 28, 29, 30], [0, 1, 2, 3, 4, 5, 6, 7, 8, 9, 10, 11, 12, 13, 14, 15, 16, 17, 18, 19, 20, 21, 22, 23, 24, 25, 26, 27, 28, 29, 30, 31]] (by kernel_rfl) (by kernel_rfl) (by kernel_rfl) (by kernel_rfl) [2, 4, 5, 6, 8, 9, 10, 11, 85, 86, 12, 15, 17, 146, 147, 148, 19, 185] [0, 1, 2] (by kernel_rfl)
                                                      ⟨⟨⟨⟨⟨⟨⟨⟨⟨⟨⟨⟨⟨⟨⟨⟨⟨⟨⟨⟨⟨⟨⟨⟨⟨⟨⟨⟨⟨⟨⟨⟨⟨trivial,
                                                      tri_quietW (fun β => []) [] [] (fun β => []) (by kernel_rfl) (fun β extra => by kernel_rfl) (by kernel_rfl) (fun β => trivial)⟩,
                                                      tri_quietW (fun β => []) [0] [0] (fun β => [(pA b4, pA b4)]) (by kernel_rfl) (fun β extra => by kernel_rfl) (by kernel_rfl) (fun β => ⟨rfl, trivial⟩)⟩,
                                                      tri_quietW (fun β => []) [] [] (fun β => []) (by kernel_rfl) (fun β extra => by kernel_rfl) (by kernel_rfl) (fun β => trivial)⟩,
                                                      tri_quietW (fun β => []) [0] [0] (fun β => [(pA b4, pA b4)]) (by kernel_rfl) (fun β extra => by kernel_rfl) (by kernel_rfl) (fun β => ⟨rfl, trivial⟩)⟩,
                                                      tri_quietW (fun β => [(157, .bool false)]) [] [] (fun β => [(.bool (decide ((elS Ls j).2 < (elS Ls j).1)), .bool false)]) (by kernel_rfl) (fun β extra => by kernel_rfl) (by kernel_rfl) (fun β => ⟨(bo hd6), trivial⟩)⟩,
                                                      tri_quietW (fun β => []) [] [] (fun β => []) (by kernel_rfl) (fun β extra => by kernel_rfl) (by kernel_rfl) (fun β => trivial)⟩,
                                                      tri_quietW (fun β => []) [] [] (fun β => []) (by kernel_rfl) (fun β extra => by kernel_rfl) (by kernel_rfl) (fun β => trivial)⟩,
                                                      tri_quietW (fun β => []) [0] [0] (fun β => [(pA b4, pA b4)]) (by kernel_rfl) (fun β extra => by kernel_rfl) (by kernel_rfl) (fun β => ⟨rfl, trivial⟩)⟩,
                                                      tri_quietW (fun β => [(161, .bool false)]) [] [] (fun β => [(.bool (decide ((elS Ls j).1 < 0)), .bool false)]) (by kernel_rfl) (fun β extra => by kernel_rfl) (by kernel_rfl) (fun β => ⟨(bo hd7), trivial⟩)⟩,
                                                      tri_quietW (fun β => []) [] [] (fun β => []) (by kernel_rfl) (fun β extra => by kernel_rfl) (by kernel_rfl) (fun β => trivial)⟩,
                                                      tri_quietW (fun β => []) [] [] (fun β => []) (by kernel_rfl) (fun β extra => by kernel_rfl) (by kernel_rfl) (fun β => trivial)⟩,
                                                      tri_quietW (fun β => []) [] [] (fun β => []) (by kernel_rfl) (fun β extra => by kernel_rfl) (by kernel_rfl) (fun β => trivial)⟩,
                                                      tri_quietW (fun β => []) [0] [0] (fun β => [(pA b4, pA b4)]) (by kernel_rfl) (fun β extra => by kernel_rfl) (by kernel_rfl) (fun β => ⟨rfl, trivial⟩)⟩,
                                                      tri_quietW (fun β => []) [] [] (fun β => []) (by kernel_rfl) (fun β extra => by kernel_rfl) (by kernel_rfl) (fun β => trivial)⟩,
                                                      tri_quietW (fun β => []) [0] [0] (fun β => [(pA b1, pA b1)]) (by kernel_rfl) (fun β extra => by kernel_rfl) (by kernel_rfl) (fun β => ⟨rfl, trivial⟩)⟩,
                                                      tri_quietW (fun β => [(168, .bool false)]) [] [] (fun β => [(.bool (decide (p.last < (elS Ls j).2)), .bool false)]) (by kernel_rfl) (fun β extra => by kernel_rfl) (by kernel_rfl) (fun β => ⟨(bo hd8), trivial⟩)⟩,
                                                      tri_quietW (fun β => []) [] [] (fun β => []) (by kernel_rfl) (fun β extra => by kernel_rfl) (by kernel_rfl) (fun β => trivial)⟩,
                                                      tri_quietW (fun β => []) [] [] (fun β => []) (by kernel_rfl) (fun β extra => by kernel_rfl) (by kernel_rfl) (fun β => trivial)⟩,
                                                      tri_quietW (fun β => []) [] [] (fun β => []) (by kernel_rfl) (fun β extra => by kernel_rfl) (by kernel_rfl) (fun β => trivial)⟩,
                                                      tri_quietW (fun β => [(172, .bool true)]) [] [] (fun β => [(.bool (decide (0 < (j : Int))), .bool true)]) (by kernel_rfl) (fun β extra => by kernel_rfl) (by kernel_rfl) (fun β => ⟨(bo hd9), trivial⟩)⟩,
                                                      tri_quietW (fun β => []) [] [] (fun β => []) (by kernel_rfl) (fun β extra => by kernel_rfl) (by kernel_rfl) (fun β => trivial)⟩,
                                                      tri_quietW (fun β => []) [] [] (fun β => []) (by kernel_rfl) (fun β extra => by kernel_rfl) (by kernel_rfl) (fun β => trivial)⟩,
                                                      tri_quietW (fun β => []) [0] [0] (fun β => [(pA b4, pA b4)]) (by kernel_rfl) (fun β extra => by kernel_rfl) (by kernel_rfl) (fun β => ⟨rfl, trivial⟩)⟩,
                                                      tri_quietW (fun β => []) [] [] (fun β => []) (by kernel_rfl) (fun β extra => by kernel_rfl) (by kernel_rfl) (fun β => trivial)⟩,
                                                      tri_quietW (fun β => []) [] [] (fun β => []) (by kernel_rfl) (fun β extra => by kernel_rfl) (by kernel_rfl) (fun β => trivial)⟩,
                                                      tri_quietW (fun β => [(178, iV (i1 : Int))]) [] [] (fun β => [(iV (IntKind.i64.wrap ((j : Int) - 1)), iV (i1 : Int))]) (by kernel_rfl) (fun β extra => by kernel_rfl) (by kernel_rfl) (fun β => ⟨((wr (by omega) (by omega)).trans (io (by omega))), trivial⟩)⟩,
                                                      tri_vVW (fun β => .pointer (some ⟨rg2, i1 * 2, none⟩)) (fun β => by kernel_rfl) (fun β => (Instr.indexAt 38 (sV rg2 Ls.length rc2) (iV (i1 : Int)) >>= fun v => pure (Next.value v))) (by kernel_rfl) (fun β extra => by kernel_rfl) (fun β => by kernel_rfl) (fun β w1 k1 h1 => idx_off (e := 23) (n := 2) (by kernel_rfl) (by kernel_rfl) rg2 (0) Ls.length rc2 .i64 i1 (by omega) (i1 * 2) (by omega) w1)⟩,
                                                      tri_quietW (fun β => []) [] [] (fun β => []) (by kernel_rfl) (fun β extra => by kernel_rfl) (by kernel_rfl) (fun β => trivial)⟩,
                                                      tri_vVW (fun β => iV (elS Ls i1).2) (fun β => by kernel_rfl) (fun β => (Instr.loadAt 3 (.pointer (some ⟨rg2, i1 * 2 + 1, none⟩)) >>= fun v => pure (Next.value v))) (by kernel_rfl) (fun β extra => by kernel_rfl) (fun β => by kernel_rfl) (fun β w1 k1 h1 => load_own (e := 23) (fr := (0, 0)) (c := (Ls).flatMap spR ++ rsp2) h1 (List.mem_of_getElem? (i := 0) (by kernel_rfl)) (flat_loadF (c := spR) (n := 2) spR_len (by kernel_rfl) (i := i1) (k := 1) (by first | omega | (simp; omega)) (by rw [spR_at (by first | omega | (simp; omega))]; rfl) (by omega)))⟩,
                                                      tri_quietW (fun β => [(182, iV ((elS Ls i1).2 + 1))]) [] [] (fun β => [(iV (IntKind.i64.wrap ((elS Ls i1).2 + 1)), iV ((elS Ls i1).2 + 1))]) (by kernel_rfl) (fun β extra => by kernel_rfl) (by kernel_rfl) (fun β => ⟨(wr (by omega) (by omega)), trivial⟩)⟩,
                                                      tri_quietW (fun β => [(183, .bool false)]) [] [] (fun β => [(.bool (decide ((elS Ls j).1 ≤ ((elS Ls i1).2 + 1))), .bool false)]) (by kernel_rfl) (fun β extra => by kernel_rfl) (by kernel_rfl) (fun β => ⟨(bo hd10), trivial⟩)⟩,
                                                      tri_quietW (fun β => []) [] [] (fun β => []) (by kernel_rfl) (fun β extra => by kernel_rfl) (by kernel_rfl) (fun β => trivial)⟩,
                                                      tri_quietW (fun β => []) [] [] (fun β => []) (by kernel_rfl) (fun β extra => by kernel_rfl) (by kernel_rfl) (fun β => trivial)⟩
                                                      (fun β => ⟨[(2, pA b1), (4, .bool false), (5, iV (b : Int)), (6, sV rg2 Ls.length rc2), (8, iV fv), (9, iV fe), (10, iV av), (11, iV ae), (85, iV (p.last + 1)), (86, iV (m : Int)), (12, iV (m : Int)), (15, iV jv), (17, .bool (bq rs)), (146, sV rg2 Ls.length rc2), (147, iV (Ls.length : Int)), (148, iV (j : Int)), (19, pA b4), (185, .bool false)], [(b4, aO #[iV (elS Ls j).1, iV (elS Ls j).2] 23), (rg2, cO ((Ls).flatMap spR ++ rsp2) 23), (b1, aO #[.slice p.ba p.bs.length p.bc, iV p.near, iV p.last, .slice p.ta p.ts.length p.tc] 33)]⟩) (fun β => by kernel_rfl) (fun β5 => ?_)
                          cases hd11 : (bq rs) with
                          | false =>
                            refine run_auto [] 7 [false] [0] [2, 4, 5, 6, 8, 9, 10, 11, 85, 86, 12, 15, 17, 146, 147, 148, 187, 188, 189] [1, 2] (st' := ⟨[(2, pA b1), (4, .bool false), (5, iV (b : Int)), (6, sV rg2 Ls.length rc2), (8, iV fv), (9, iV fe), (10, iV av), (11, iV ae), (85, iV (p.last + 1)), (86, iV (m : Int)), (12, iV (m : Int)), (15, iV jv), (17, .bool false), (146, sV rg2 Ls.length rc2), (147, iV (Ls.length : Int)), (148, iV (j : Int)), (187, .bool false), (188, iV (m : Int)), (189, .agg #[iV (elS Ls j).1, iV (elS Ls j).2])], [(rg2, cO ((Ls).flatMap spR ++ rsp2) 23), (b1, aO #[.slice p.ba p.bs.length p.bc, iV p.near, iV p.last, .slice p.ta p.ts.length p.tc] 33)]⟩) (acc := [(pA b4, pA b4), (.bool false, .bool false)]) (by kernel_rfl) (by kernel_rfl) ⟨rfl, rfl, trivial⟩ ?_
                            cases hd12 : (inB (m : Int) (elS Ls j)) with
                            | false =>
                              refine run_ret1 25 #[iV (m : Int), .agg #[iV (elS Ls j).1, iV (elS Ls j).2]] (some 190) (.bool false) (by kernel_rfl) (fun w1 k1 h1 => (by have h := inside_any (m : Int) (elS Ls j) w1; rw [hd12] at h; exact h)) ?_
                              refine run_auto [(192, iV ((j + 1 : Nat) : Int))] 8 [] [] [2, 4, 5, 6, 8, 9, 10, 11, 85, 86, 12, 15, 17, 146, 147, 148] [0, 1] (st' := ⟨[(2, pA b1), (4, .bool false), (5, iV (b : Int)), (6, sV rg2 Ls.length rc2), (8, iV fv), (9, iV fe), (10, iV av), (11, iV ae), (85, iV (p.last + 1)), (86, iV (m : Int)), (12, iV (m : Int)), (15, iV jv), (17, .bool false), (146, sV rg2 Ls.length rc2), (147, iV (Ls.length : Int)), (148, iV ((j + 1 : Nat) : Int))], [(rg2, cO ((Ls).flatMap spR ++ rsp2) 23), (b1, aO #[.slice p.ba p.bs.length p.bc, iV p.near, iV p.last, .slice p.ta p.ts.length p.tc] 33)]⟩) (acc := [(iV (IntKind.i64.wrap ((j : Int) + 1)), iV ((j + 1 : Nat) : Int))]) (by kernel_rfl) (by kernel_rfl) ⟨(wr (by omega) (by omega)), trivial⟩ ?_
                              exact run_round (by kernel_rfl) (hJ1 ((j + 1, false)) (⟨by dsimp only; omega, by show false = (inAny Ls (m : Int) j || inB (m : Int) (elS Ls j)); rw [← hA2, hd11, hd12]; rfl⟩) (by dsimp only; omega))
                            | true =>
                              refine run_ret1 25 #[iV (m : Int), .agg #[iV (elS Ls j).1, iV (elS Ls j).2]] (some 190) (.bool true) (by kernel_rfl) (fun w1 k1 h1 => (by have h := inside_any (m : Int) (elS Ls j) w1; rw [hd12] at h; exact h)) ?_
                              refine run_auto [(192, iV ((j + 1 : Nat) : Int))] 8 [] [] [2, 4, 5, 6, 8, 9, 10, 11, 85, 86, 12, 15, 17, 146, 147, 148] [0, 1] (st' := ⟨[(2, pA b1), (4, .bool false), (5, iV (b : Int)), (6, sV rg2 Ls.length rc2), (8, iV fv), (9, iV fe), (10, iV av), (11, iV ae), (85, iV (p.last + 1)), (86, iV (m : Int)), (12, iV (m : Int)), (15, iV jv), (17, .bool true), (146, sV rg2 Ls.length rc2), (147, iV (Ls.length : Int)), (148, iV ((j + 1 : Nat) : Int))], [(rg2, cO ((Ls).flatMap spR ++ rsp2) 23), (b1, aO #[.slice p.ba p.bs.length p.bc, iV p.near, iV p.last, .slice p.ta p.ts.length p.tc] 33)]⟩) (acc := [(iV (IntKind.i64.wrap ((j : Int) + 1)), iV ((j + 1 : Nat) : Int))]) (by kernel_rfl) (by kernel_rfl) ⟨(wr (by omega) (by omega)), trivial⟩ ?_
                              exact run_round (by kernel_rfl) (hJ1 ((j + 1, true)) (⟨by dsimp only; omega, by show true = (inAny Ls (m : Int) j || inB (m : Int) (elS Ls j)); rw [← hA2, hd11, hd12]; rfl⟩) (by dsimp only; omega))
                          | true =>
                            refine run_auto [(192, iV ((j + 1 : Nat) : Int))] 16 [false] [] [2, 4, 5, 6, 8, 9, 10, 11, 85, 86, 12, 15, 17, 146, 147, 148] [1, 2] (st' := ⟨[(2, pA b1), (4, .bool false), (5, iV (b : Int)), (6, sV rg2 Ls.length rc2), (8, iV fv), (9, iV fe), (10, iV av), (11, iV ae), (85, iV (p.last + 1)), (86, iV (m : Int)), (12, iV (m : Int)), (15, iV jv), (17, .bool true), (146, sV rg2 Ls.length rc2), (147, iV (Ls.length : Int)), (148, iV ((j + 1 : Nat) : Int))], [(rg2, cO ((Ls).flatMap spR ++ rsp2) 23), (b1, aO #[.slice p.ba p.bs.length p.bc, iV p.near, iV p.last, .slice p.ta p.ts.length p.tc] 33)]⟩) (acc := [(iV (IntKind.i64.wrap ((j : Int) + 1)), iV ((j + 1 : Nat) : Int)), (.bool false, .bool false)]) (by kernel_rfl) (by kernel_rfl) ⟨(wr (by omega) (by omega)), rfl, trivial⟩ ?_
                            exact run_round (by kernel_rfl) (hJ1 ((j + 1, true)) (⟨by dsimp only; omega, by show true = (inAny Ls (m : Int) j || inB (m : Int) (elS Ls j)); rw [← hA2, hd11]; rfl⟩) (by dsimp only; omega))
                        | true =>
                          have hp10 := of_decide_eq_true hd10
                          refine drawW 33 [{ val := fun _ => pA b4, slots := [19] },
                                                      { val := fun _ => iV (elS Ls j).1, slots := [153], reads := [0] },
                                                      { val := fun _ => .pointer (some ⟨b4, 1, none⟩), slots := [19] },
                                                      { val := fun _ => iV (elS Ls j).2, slots := [155], reads := [0] },
                                                      { val := fun _ => .bool false, slots := [154, 156] },
                                                      { val := fun _ => .bool false, slots := [157] },
                                                      { val := fun _ => pA b4, slots := [19, 158] },
                                                      { val := fun _ => iV (elS Ls j).1, slots := [158, 159], reads := [0] },
                                                      { val := fun _ => .bool false, slots := [158, 160] },
                                                      { val := fun _ => .bool false, slots := [158, 161] },
                                                      { val := fun _ => .bool false, slots := [162] },
                                                      { val := fun _ => .pointer (some ⟨b4, 1, none⟩), slots := [19, 163] },
                                                      { val := fun _ => iV (elS Ls j).2, slots := [163, 164], reads := [0] },
                                                      { val := fun _ => .pointer (some ⟨b1, 2, none⟩), slots := [2, 163] },
                                                      { val := fun _ => iV p.last, slots := [163, 166], reads := [2] },
                                                      { val := fun _ => .bool false, slots := [163, 165, 167] },
                                                      { val := fun _ => .bool false, slots := [163, 168] },
                                                      { val := fun _ => .bool false, slots := [169] },
                                                      { val := fun _ => iV (j : Int), slots := [18, 170] },
                                                      { val := fun _ => .bool true, slots := [170, 171] },
                                                      { val := fun _ => .bool true, slots := [170, 172] },
                                                      { val := fun _ => pA b4, slots := [19, 173] },
                                                      { val := fun _ => iV (elS Ls j).1, slots := [173, 174], reads := [0] },
                                                      { val := fun _ => sV rg2 Ls.length rc2, slots := [6, 173] },
                                                      { val := fun _ => iV (j : Int), slots := [18, 173] },
                                                      { val := fun _ => iV (i1 : Int), slots := [173, 177] },
                                                      { val := fun _ => .pointer (some ⟨rg2, i1 * 2, none⟩), slots := [173, 176, 178] },
                                                      { val := fun _ => .pointer (some ⟨rg2, i1 * 2 + 1, none⟩), slots := [173, 179] },
                                                      { val := fun _ => iV (elS Ls i1).2, slots := [173, 180], reads := [1] },
                                                      { val := fun _ => iV ((elS Ls i1).2 + 1), slots := [173, 181] },
                                                      { val := fun _ => .bool true, slots := [173, 175, 182] },
                                                      { val := fun _ => .bool true, slots := [170, 173, 183] },
                                                      { val := fun _ => .bool true, slots := [170, 184] }] [[], [0], [], [2], [0, 1, 2, 3], [0, 1, 2, 3, 4], [0, 1, 2, 3, 4, 5], [0, 1, 2, 3, 4, 5, 6], [0, 1, 2, 3, 4, 5, 6, 7], [0, 1, 2, 3, 4, 5, 6, 7, 8], [0, 1, 2, 3, 4, 5, 6, 7, 8, 9], [0, 1, 2, 3, 4, 5, 6, 7, 8, 9, 10], [0, 1, 2, 3, 4, 5, 6, 7, 8, 9, 10, 11], [0, 1, 2, 3, 4, 5, 6, 7, 8, 9, 10], [0, 1, 2, 3, 4, 5, 6, 7, 8, 9, 10, 13], [0, 1, 2, 3, 4, 5, 6, 7, 8, 9, 10, 11, 12, 13, 14], [0, 1, 2, 3, 4, 5, 6, 7, 8, 9, 10, 11, 12, 13, 14, 15], [0, 1, 2, 3, 4, 5, 6, 7, 8, 9, 10, 11, 12, 13, 14, 15, 16], [0, 1, 2, 3, 4, 5, 6, 7, 8, 9, 10, 11, 12, 13, 14, 15, 16, 17], [0, 1, 2, 3, 4, 5, 6, 7, 8, 9, 10, 11, 12, 13, 14, 15, 16, 17, 18], [0, 1, 2, 3, 4, 5, 6, 7, 8, 9, 10, 11, 12, 13, 14, 15, 16, 17, 18, 19], [0, 1, 2, 3, 4, 5, 6, 7, 8, 9, 10, 11, 12, 13, 14, 15, 16, 17, 18, 19, 20], [0, 1, 2, 3, 4, 5, 6, 7, 8, 9, 10, 11, 12, 13, 14, 15, 16, 17, 18, 19, 20, 21], [0, 1, 2, 3, 4, 5, 6, 7, 8, 9, 10, 11, 12, 13, 14, 15, 16, 17, 18, 19, 20], [0, 1, 2, 3, 4, 5, 6, 7, 8, 9, 10, 11, 12, 13, 14, 15, 16, 17, 18, 19, 20], [0, 1, 2, 3, 4, 5, 6, 7, 8, 9, 10, 11, 12, 13, 14, 15, 16, 17, 18, 19, 20, 24], [0, 1, 2, 3, 4, 5, 6, 7, 8, 9, 10, 11, 12, 13, 14, 15, 16, 17, 18, 19, 20, 23, 24, 25], [0, 1, 2, 3, 4, 5, 6, 7, 8, 9, 10, 11, 12, 13, 14, 15, 16, 17, 18, 19, 20, 23, 24, 25, 26], [0, 1, 2, 3, 4, 5, 6, 7, 8, 9, 10, 11, 12, 13, 14, 15, 16, 17, 18, 19, 20, 23, 24, 25, 26, 27], [0, 1, 2, 3, 4, 5, 6, 7, 8, 9, 10, 11, 12, 13, 14, 15, 16, 17, 18, 19, 20, 23, 24, 25, 26, 27, 28], [0, 1, 2, 3, 4, 5, 6, 7, 8, 9, 10, 11, 12, 13, 14, 15, 16, 17, 18, 19, 20, 21, 22, 23, 24, 25, 26, 27, 28, 29], [0, 1, 2, 3, 4, 5, 6, 7, 8, 9, 10, 11, 12, 13, 14, 15, 16, 17, 18, 19, 20, 21, 22, 23, 24, 25, 26, 27, 28, 29, 30], [0, 1, 2, 3, 4, 5, 6, 7, 8, 9, 10, 11, 12, 13, 14, 15, 16, 17, 18, 19, 20, 21, 22, 23, 24, 25, 26, 27, 28, 29, 30, 31]] (by kernel_rfl) (by kernel_rfl) (by kernel_rfl) (by kernel_rfl) [2, 4, 5, 6, 8, 9, 10, 11, 85, 86, 12, 15, 17, 146, 147, 148, 19, 185] [0, 1, 2] (by kernel_rfl)
                                                      ⟨⟨⟨⟨⟨⟨⟨⟨⟨⟨⟨⟨⟨⟨⟨⟨⟨⟨⟨⟨⟨⟨⟨⟨⟨⟨⟨⟨⟨⟨⟨⟨⟨trivial,
                                                      tri_quietW (fun β => []) [] [] (fun β => []) (by kernel_rfl) (fun β extra => by kernel_rfl) (by kernel_rfl) (fun β => trivial)⟩,
                                                      tri_quietW (fun β => []) [0] [0] (fun β => [(pA b4, pA b4)]) (by kernel_rfl) (fun β extra => by kernel_rfl) (by kernel_rfl) (fun β => ⟨rfl, trivial⟩)⟩,
                                                      tri_quietW (fun β => []) [] [] (fun β => []) (by kernel_rfl) (fun β extra => by kernel_rfl) (by kernel_rfl) (fun β => trivial)⟩,
                                                      tri_quietW (fun β => []) [0] [0] (fun β => [(pA b4, pA b4)]) (by kernel_rfl) (fun β extra => by kernel_rfl) (by kernel_rfl) (fun β => ⟨rfl, trivial⟩)⟩,
                                                      tri_quietW (fun β => [(157, .bool false)]) [] [] (fun β => [(.bool (decide ((elS Ls j).2 < (elS Ls j).1)), .bool false)]) (by kernel_rfl) (fun β extra => by kernel_rfl) (by kernel_rfl) (fun β => ⟨(bo hd6), trivial⟩)⟩,
                                                      tri_quietW (fun β => []) [] [] (fun β => []) (by kernel_rfl) (fun β extra => by kernel_rfl) (by kernel_rfl) (fun β => trivial)⟩,
                                                      tri_quietW (fun β => []) [] [] (fun β => []) (by kernel_rfl) (fun β extra => by kernel_rfl) (by kernel_rfl) (fun β => trivial)⟩,
                                                      tri_quietW (fun β => []) [0] [0] (fun β => [(pA b4, pA b4)]) (by kernel_rfl) (fun β extra => by kernel_rfl) (by kernel_rfl) (fun β => ⟨rfl, trivial⟩)⟩,
                                                      tri_quietW (fun β => [(161, .bool false)]) [] [] (fun β => [(.bool (decide ((elS Ls j).1 < 0)), .bool false)]) (by kernel_rfl) (fun β extra => by kernel_rfl) (by kernel_rfl) (fun β => ⟨(bo hd7), trivial⟩)⟩,
                                                      tri_quietW (fun β => []) [] [] (fun β => []) (by kernel_rfl) (fun β extra => by kernel_rfl) (by kernel_rfl) (fun β => trivial)⟩,
                                                      tri_quietW (fun β => []) [] [] (fun β => []) (by kernel_rfl) (fun β extra => by kernel_rfl) (by kernel_rfl) (fun β => trivial)⟩,
                                                      tri_quietW (fun β => []) [] [] (fun β => []) (by kernel_rfl) (fun β extra => by kernel_rfl) (by kernel_rfl) (fun β => trivial)⟩,
                                                      tri_quietW (fun β => []) [0] [0] (fun β => [(pA b4, pA b4)]) (by kernel_rfl) (fun β extra => by kernel_rfl) (by kernel_rfl) (fun β => ⟨rfl, trivial⟩)⟩,
                                                      tri_quietW (fun β => []) [] [] (fun β => []) (by kernel_rfl) (fun β extra => by kernel_rfl) (by kernel_rfl) (fun β => trivial)⟩,
                                                      tri_quietW (fun β => []) [0] [0] (fun β => [(pA b1, pA b1)]) (by kernel_rfl) (fun β extra => by kernel_rfl) (by kernel_rfl) (fun β => ⟨rfl, trivial⟩)⟩,
                                                      tri_quietW (fun β => [(168, .bool false)]) [] [] (fun β => [(.bool (decide (p.last < (elS Ls j).2)), .bool false)]) (by kernel_rfl) (fun β extra => by kernel_rfl) (by kernel_rfl) (fun β => ⟨(bo hd8), trivial⟩)⟩,
                                                      tri_quietW (fun β => []) [] [] (fun β => []) (by kernel_rfl) (fun β extra => by kernel_rfl) (by kernel_rfl) (fun β => trivial)⟩,
                                                      tri_quietW (fun β => []) [] [] (fun β => []) (by kernel_rfl) (fun β extra => by kernel_rfl) (by kernel_rfl) (fun β => trivial)⟩,
                                                      tri_quietW (fun β => []) [] [] (fun β => []) (by kernel_rfl) (fun β extra => by kernel_rfl) (by kernel_rfl) (fun β => trivial)⟩,
                                                      tri_quietW (fun β => [(172, .bool true)]) [] [] (fun β => [(.bool (decide (0 < (j : Int))), .bool true)]) (by kernel_rfl) (fun β extra => by kernel_rfl) (by kernel_rfl) (fun β => ⟨(bo hd9), trivial⟩)⟩,
                                                      tri_quietW (fun β => []) [] [] (fun β => []) (by kernel_rfl) (fun β extra => by kernel_rfl) (by kernel_rfl) (fun β => trivial)⟩,
                                                      tri_quietW (fun β => []) [] [] (fun β => []) (by kernel_rfl) (fun β extra => by kernel_rfl) (by kernel_rfl) (fun β => trivial)⟩,
                                                      tri_quietW (fun β => []) [0] [0] (fun β => [(pA b4, pA b4)]) (by kernel_rfl) (fun β extra => by kernel_rfl) (by kernel_rfl) (fun β => ⟨rfl, trivial⟩)⟩,
                                                      tri_quietW (fun β => []) [] [] (fun β => []) (by kernel_rfl) (fun β extra => by kernel_rfl) (by kernel_rfl) (fun β => trivial)⟩,
                                                      tri_quietW (fun β => []) [] [] (fun β => []) (by kernel_rfl) (fun β extra => by kernel_rfl) (by kernel_rfl) (fun β => trivial)⟩,
                                                      tri_quietW (fun β => [(178, iV (i1 : Int))]) [] [] (fun β => [(iV (IntKind.i64.wrap ((j : Int) - 1)), iV (i1 : Int))]) (by kernel_rfl) (fun β extra => by kernel_rfl) (by kernel_rfl) (fun β => ⟨((wr (by omega) (by omega)).trans (io (by omega))), trivial⟩)⟩,
                                                      tri_vVW (fun β => .pointer (some ⟨rg2, i1 * 2, none⟩)) (fun β => by kernel_rfl) (fun β => (Instr.indexAt 38 (sV rg2 Ls.length rc2) (iV (i1 : Int)) >>= fun v => pure (Next.value v))) (by kernel_rfl) (fun β extra => by kernel_rfl) (fun β => by kernel_rfl) (fun β w1 k1 h1 => idx_off (e := 23) (n := 2) (by kernel_rfl) (by kernel_rfl) rg2 (0) Ls.length rc2 .i64 i1 (by omega) (i1 * 2) (by omega) w1)⟩,
                                                      tri_quietW (fun β => []) [] [] (fun β => []) (by kernel_rfl) (fun β extra => by kernel_rfl) (by kernel_rfl) (fun β => trivial)⟩,
                                                      tri_vVW (fun β => iV (elS Ls i1).2) (fun β => by kernel_rfl) (fun β => (Instr.loadAt 3 (.pointer (some ⟨rg2, i1 * 2 + 1, none⟩)) >>= fun v => pure (Next.value v))) (by kernel_rfl) (fun β extra => by kernel_rfl) (fun β => by kernel_rfl) (fun β w1 k1 h1 => load_own (e := 23) (fr := (0, 0)) (c := (Ls).flatMap spR ++ rsp2) h1 (List.mem_of_getElem? (i := 0) (by kernel_rfl)) (flat_loadF (c := spR) (n := 2) spR_len (by kernel_rfl) (i := i1) (k := 1) (by first | omega | (simp; omega)) (by rw [spR_at (by first | omega | (simp; omega))]; rfl) (by omega)))⟩,
                                                      tri_quietW (fun β => [(182, iV ((elS Ls i1).2 + 1))]) [] [] (fun β => [(iV (IntKind.i64.wrap ((elS Ls i1).2 + 1)), iV ((elS Ls i1).2 + 1))]) (by kernel_rfl) (fun β extra => by kernel_rfl) (by kernel_rfl) (fun β => ⟨(wr (by omega) (by omega)), trivial⟩)⟩,
                                                      tri_quietW (fun β => [(183, .bool true)]) [] [] (fun β => [(.bool (decide ((elS Ls j).1 ≤ ((elS Ls i1).2 + 1))), .bool true)]) (by kernel_rfl) (fun β extra => by kernel_rfl) (by kernel_rfl) (fun β => ⟨(bo hd10), trivial⟩)⟩,
                                                      tri_quietW (fun β => []) [] [] (fun β => []) (by kernel_rfl) (fun β extra => by kernel_rfl) (by kernel_rfl) (fun β => trivial)⟩,
                                                      tri_quietW (fun β => []) [] [] (fun β => []) (by kernel_rfl) (fun β extra => by kernel_rfl) (by kernel_rfl) (fun β => trivial)⟩
                                                      (fun β => ⟨[(2, pA b1), (4, .bool false), (5, iV (b : Int)), (6, sV rg2 Ls.length rc2), (8, iV fv), (9, iV fe), (10, iV av), (11, iV ae), (85, iV (p.last + 1)), (86, iV (m : Int)), (12, iV (m : Int)), (15, iV jv), (17, .bool (bq rs)), (146, sV rg2 Ls.length rc2), (147, iV (Ls.length : Int)), (148, iV (j : Int)), (19, pA b4), (185, .bool true)], [(b4, aO #[iV (elS Ls j).1, iV (elS Ls j).2] 23), (rg2, cO ((Ls).flatMap spR ++ rsp2) 23), (b1, aO #[.slice p.ba p.bs.length p.bc, iV p.near, iV p.last, .slice p.ta p.ts.length p.tc] 33)]⟩) (fun β => by kernel_rfl) (fun β5 => ?_)
                          refine run_auto [] 5 [true] [] [2, 4, 5, 6, 8, 9, 10, 11, 85, 86, 12, 15, 17, 146, 147, 148, 19] [0, 1, 2] (st' := ⟨[(2, pA b1), (4, .bool false), (5, iV (b : Int)), (6, sV rg2 Ls.length rc2), (8, iV fv), (9, iV fe), (10, iV av), (11, iV ae), (85, iV (p.last + 1)), (86, iV (m : Int)), (12, iV (m : Int)), (15, iV jv), (17, .bool (bq rs)), (146, sV rg2 Ls.length rc2), (147, iV (Ls.length : Int)), (148, iV (j : Int)), (19, pA b4)], [(b4, aO #[iV (elS Ls j).1, iV (elS Ls j).2] 23), (rg2, cO ((Ls).flatMap spR ++ rsp2) 23), (b1, aO #[.slice p.ba p.bs.length p.bc, iV p.near, iV p.last, .slice p.ta p.ts.length p.tc] 33)]⟩) (acc := [(.bool true, .bool true)]) (by kernel_rfl) (by kernel_rfl) ⟨rfl, trivial⟩ ?_
                          refine run_end (fn := f6) rfl (Nat.le_refl _) (by kernel_rfl) [] [.bool false] (e := []) (by kernel_rfl) trivial (fun w1 k1 h1 => ?_)
                          exfalso
                          omega
                    | true =>
                      have hp8 := of_decide_eq_true hd8
                      refine drawW 33 [{ val := fun _ => pA b4, slots := [19] },
                                              { val := fun _ => iV (elS Ls j).1, slots := [153], reads := [0] },
                                              { val := fun _ => .pointer (some ⟨b4, 1, none⟩), slots := [19] },
                                              { val := fun _ => iV (elS Ls j).2, slots := [155], reads := [0] },
                                              { val := fun _ => .bool false, slots := [154, 156] },
                                              { val := fun _ => .bool false, slots := [157] },
                                              { val := fun _ => pA b4, slots := [19, 158] },
                                              { val := fun _ => iV (elS Ls j).1, slots := [158, 159], reads := [0] },
                                              { val := fun _ => .bool false, slots := [158, 160] },
                                              { val := fun _ => .bool false, slots := [158, 161] },
                                              { val := fun _ => .bool false, slots := [162] },
                                              { val := fun _ => .pointer (some ⟨b4, 1, none⟩), slots := [19, 163] },
                                              { val := fun _ => iV (elS Ls j).2, slots := [163, 164], reads := [0] },
                                              { val := fun _ => .pointer (some ⟨b1, 2, none⟩), slots := [2, 163] },
                                              { val := fun _ => iV p.last, slots := [163, 166], reads := [2] },
                                              { val := fun _ => .bool true, slots := [163, 165, 167] },
                                              { val := fun _ => .bool true, slots := [163, 168] },
                                              { val := fun _ => .bool true, slots := [169] },
                                              { slots := [170] },
                                              { slots := [170] },
                                              { slots := [170] },
                                              { slots := [173] },
                                              { slots := [173] },
                                              { slots := [173] },
                                              { slots := [173] },
                                              { slots := [173] },
                                              { slots := [173] },
                                              { slots := [173] },
                                              { slots := [173] },
                                              { slots := [173] },
                                              { slots := [173] },
                                              { slots := [170] },
                                              { val := fun _ => .bool true, slots := [170, 184] }] [[], [0], [], [2], [0, 1, 2, 3], [0, 1, 2, 3, 4], [0, 1, 2, 3, 4, 5], [0, 1, 2, 3, 4, 5, 6], [0, 1, 2, 3, 4, 5, 6, 7], [0, 1, 2, 3, 4, 5, 6, 7, 8], [0, 1, 2, 3, 4, 5, 6, 7, 8, 9], [0, 1, 2, 3, 4, 5, 6, 7, 8, 9, 10], [0, 1, 2, 3, 4, 5, 6, 7, 8, 9, 10, 11], [0, 1, 2, 3, 4, 5, 6, 7, 8, 9, 10], [0, 1, 2, 3, 4, 5, 6, 7, 8, 9, 10, 13], [0, 1, 2, 3, 4, 5, 6, 7, 8, 9, 10, 11, 12, 13, 14], [0, 1, 2, 3, 4, 5, 6, 7, 8, 9, 10, 11, 12, 13, 14, 15], [0, 1, 2, 3, 4, 5, 6, 7, 8, 9, 10, 11, 12, 13, 14, 15, 16], [0, 1, 2, 3, 4, 5, 6, 7, 8, 9, 10, 11, 12, 13, 14, 15, 16, 17], [0, 1, 2, 3, 4, 5, 6, 7, 8, 9, 10, 11, 12, 13, 14, 15, 16, 17, 18], [0, 1, 2, 3, 4, 5, 6, 7, 8, 9, 10, 11, 12, 13, 14, 15, 16, 17, 18, 19], [0, 1, 2, 3, 4, 5, 6, 7, 8, 9, 10, 11, 12, 13, 14, 15, 16, 17, 18, 19, 20], [0, 1, 2, 3, 4, 5, 6, 7, 8, 9, 10, 11, 12, 13, 14, 15, 16, 17, 18, 19, 20, 21], [0, 1, 2, 3, 4, 5, 6, 7, 8, 9, 10, 11, 12, 13, 14, 15, 16, 17, 18, 19, 20], [0, 1, 2, 3, 4, 5, 6, 7, 8, 9, 10, 11, 12, 13, 14, 15, 16, 17, 18, 19, 20], [0, 1, 2, 3, 4, 5, 6, 7, 8, 9, 10, 11, 12, 13, 14, 15, 16, 17, 18, 19, 20, 24], [0, 1, 2, 3, 4, 5, 6, 7, 8, 9, 10, 11, 12, 13, 14, 15, 16, 17, 18, 19, 20, 23, 24, 25], [0, 1, 2, 3, 4, 5, 6, 7, 8, 9, 10, 11, 12, 13, 14, 15, 16, 17, 18, 19, 20, 23, 24, 25, 26], [0, 1, 2, 3, 4, 5, 6, 7, 8, 9, 10, 11, 12, 13, 14, 15, 16, 17, 18, 19, 20, 23, 24, 25, 26, 27], [0, 1, 2, 3, 4, 5, 6, 7, 8, 9, 10, 11, 12, 13, 14, 15, 16, 17, 18, 19, 20, 23, 24, 25, 26, 27, 28], [0, 1, 2, 3, 4, 5, 6, 7, 8, 9, 10, 11, 12, 13, 14, 15, 16, 17, 18, 19, 20, 21, 22, 23, 24, 25, 26, 27, 28, 29], [0, 1, 2, 3, 4, 5, 6, 7, 8, 9, 10, 11, 12, 13, 14, 15, 16, 17, 18, 19, 20, 21, 22, 23, 24, 25, 26, 27, 28, 29, 30], [0, 1, 2, 3, 4, 5, 6, 7, 8, 9, 10, 11, 12, 13, 14, 15, 16, 17, 18, 19, 20, 21, 22, 23, 24, 25, 26, 27, 28, 29, 30, 31]] (by kernel_rfl) (by kernel_rfl) (by kernel_rfl) (by kernel_rfl) [2, 4, 5, 6, 8, 9, 10, 11, 85, 86, 12, 15, 17, 146, 147, 148, 19, 185] [0, 1, 2] (by kernel_rfl)
                                              ⟨⟨⟨⟨⟨⟨⟨⟨⟨⟨⟨⟨⟨⟨⟨⟨⟨⟨⟨⟨⟨⟨⟨⟨⟨⟨⟨⟨⟨⟨⟨⟨⟨trivial,
                                              tri_quietW (fun β => []) [] [] (fun β => []) (by kernel_rfl) (fun β extra => by kernel_rfl) (by kernel_rfl) (fun β => trivial)⟩,
                                              tri_quietW (fun β => []) [0] [0] (fun β => [(pA b4, pA b4)]) (by kernel_rfl) (fun β extra => by kernel_rfl) (by kernel_rfl) (fun β => ⟨rfl, trivial⟩)⟩,
                                              tri_quietW (fun β => []) [] [] (fun β => []) (by kernel_rfl) (fun β extra => by kernel_rfl) (by kernel_rfl) (fun β => trivial)⟩,
                                              tri_quietW (fun β => []) [0] [0] (fun β => [(pA b4, pA b4)]) (by kernel_rfl) (fun β extra => by kernel_rfl) (by kernel_rfl) (fun β => ⟨rfl, trivial⟩)⟩,
                                              tri_quietW (fun β => [(157, .bool false)]) [] [] (fun β => [(.bool (decide ((elS Ls j).2 < (elS Ls j).1)), .bool false)]) (by kernel_rfl) (fun β extra => by kernel_rfl) (by kernel_rfl) (fun β => ⟨(bo hd6), trivial⟩)⟩,
                                              tri_quietW (fun β => []) [] [] (fun β => []) (by kernel_rfl) (fun β extra => by kernel_rfl) (by kernel_rfl) (fun β => trivial)⟩,
                                              tri_quietW (fun β => []) [] [] (fun β => []) (by kernel_rfl) (fun β extra => by kernel_rfl) (by kernel_rfl) (fun β => trivial)⟩,
                                              tri_quietW (fun β => []) [0] [0] (fun β => [(pA b4, pA b4)]) (by kernel_rfl) (fun β extra => by kernel_rfl) (by kernel_rfl) (fun β => ⟨rfl, trivial⟩)⟩,
                                              tri_quietW (fun β => [(161, .bool false)]) [] [] (fun β => [(.bool (decide ((elS Ls j).1 < 0)), .bool false)]) (by kernel_rfl) (fun β extra => by kernel_rfl) (by kernel_rfl) (fun β => ⟨(bo hd7), trivial⟩)⟩,
                                              tri_quietW (fun β => []) [] [] (fun β => []) (by kernel_rfl) (fun β extra => by kernel_rfl) (by kernel_rfl) (fun β => trivial)⟩,
                                              tri_quietW (fun β => []) [] [] (fun β => []) (by kernel_rfl) (fun β extra => by kernel_rfl) (by kernel_rfl) (fun β => trivial)⟩,
                                              tri_quietW (fun β => []) [] [] (fun β => []) (by kernel_rfl) (fun β extra => by kernel_rfl) (by kernel_rfl) (fun β => trivial)⟩,
                                              tri_quietW (fun β => []) [0] [0] (fun β => [(pA b4, pA b4)]) (by kernel_rfl) (fun β extra => by kernel_rfl) (by kernel_rfl) (fun β => ⟨rfl, trivial⟩)⟩,
                                              tri_quietW (fun β => []) [] [] (fun β => []) (by kernel_rfl) (fun β extra => by kernel_rfl) (by kernel_rfl) (fun β => trivial)⟩,
                                              tri_quietW (fun β => []) [0] [0] (fun β => [(pA b1, pA b1)]) (by kernel_rfl) (fun β extra => by kernel_rfl) (by kernel_rfl) (fun β => ⟨rfl, trivial⟩)⟩,
                                              tri_quietW (fun β => [(168, .bool true)]) [] [] (fun β => [(.bool (decide (p.last < (elS Ls j).2)), .bool true)]) (by kernel_rfl) (fun β extra => by kernel_rfl) (by kernel_rfl) (fun β => ⟨(bo hd8), trivial⟩)⟩,
                                              tri_quietW (fun β => []) [] [] (fun β => []) (by kernel_rfl) (fun β extra => by kernel_rfl) (by kernel_rfl) (fun β => trivial)⟩,
                                              tri_quietW (fun β => []) [] [] (fun β => []) (by kernel_rfl) (fun β extra => by kernel_rfl) (by kernel_rfl) (fun β => trivial)⟩,
                                              tri_quietW (fun β => []) [] [] (fun β => []) (by kernel_rfl) (fun β extra => by kernel_rfl) (by kernel_rfl) (fun β => trivial)⟩,
                                              tri_quietW (fun β => []) [] [] (fun β => []) (by kernel_rfl) (fun β extra => by kernel_rfl) (by kernel_rfl) (fun β => trivial)⟩,
                                              tri_quietW (fun β => []) [] [] (fun β => []) (by kernel_rfl) (fun β extra => by kernel_rfl) (by kernel_rfl) (fun β => trivial)⟩,
                                              tri_quietW (fun β => []) [] [] (fun β => []) (by kernel_rfl) (fun β extra => by kernel_rfl) (by kernel_rfl) (fun β => trivial)⟩,
                                              tri_quietW (fun β => []) [] [] (fun β => []) (by kernel_rfl) (fun β extra => by kernel_rfl) (by kernel_rfl) (fun β => trivial)⟩,
                                              tri_quietW (fun β => []) [] [] (fun β => []) (by kernel_rfl) (fun β extra => by kernel_rfl) (by kernel_rfl) (fun β => trivial)⟩,
                                              tri_quietW (fun β => []) [] [] (fun β => []) (by kernel_rfl) (fun β extra => by kernel_rfl) (by kernel_rfl) (fun β => trivial)⟩,
                                              tri_quietW (fun β => []) [] [] (fun β => []) (by kernel_rfl) (fun β extra => by kernel_rfl) (by kernel_rfl) (fun β => trivial)⟩,
                                              tri_quietW (fun β => []) [] [] (fun β => []) (by kernel_rfl) (fun β extra => by kernel_rfl) (by kernel_rfl) (fun β => trivial)⟩,
                                              tri_quietW (fun β => []) [] [] (fun β => []) (by kernel_rfl) (fun β extra => by kernel_rfl) (by kernel_rfl) (fun β => trivial)⟩,
                                              tri_quietW (fun β => []) [] [] (fun β => []) (by kernel_rfl) (fun β extra => by kernel_rfl) (by kernel_rfl) (fun β => trivial)⟩,
                                              tri_quietW (fun β => []) [] [] (fun β => []) (by kernel_rfl) (fun β extra => by kernel_rfl) (by kernel_rfl) (fun β => trivial)⟩,
                                              tri_quietW (fun β => []) [] [] (fun β => []) (by kernel_rfl) (fun β extra => by kernel_rfl) (by kernel_rfl) (fun β => trivial)⟩,
                                              tri_quietW (fun β => []) [] [] (fun β => []) (by kernel_rfl) (fun β extra => by kernel_rfl) (by kernel_rfl) (fun β => trivial)⟩,
                                              tri_quietW (fun β => []) [] [] (fun β => []) (by kernel_rfl) (fun β extra => by kernel_rfl) (by kernel_rfl) (fun β => trivial)⟩
                                              (fun β => ⟨[(2, pA b1), (4, .bool false), (5, iV (b : Int)), (6, sV rg2 Ls.length rc2), (8, iV fv), (9, iV fe), (10, iV av), (11, iV ae), (85, iV (p.last + 1)), (86, iV (m : Int)), (12, iV (m : Int)), (15, iV jv), (17, .bool (bq rs)), (146, sV rg2 Ls.length rc2), (147, iV (Ls.length : Int)), (148, iV (j : Int)), (19, pA b4), (185, .bool true)], [(b4, aO #[iV (elS Ls j).1, iV (elS Ls j).2] 23), (rg2, cO ((Ls).flatMap spR ++ rsp2) 23), (b1, aO #[.slice p.ba p.bs.length p.bc, iV p.near, iV p.last, .slice p.ta p.ts.length p.tc] 33)]⟩) (fun β => by kernel_rfl) (fun β5 => ?_)
                      refine run_auto [] 5 [true] [] [2, 4, 5, 6, 8, 9, 10, 11, 85, 86, 12, 15, 17, 146, 147, 148, 19] [0, 1, 2] (st' := ⟨[(2, pA b1), (4, .bool false), (5, iV (b : Int)), (6, sV rg2 Ls.length rc2), (8, iV fv), (9, iV fe), (10, iV av), (11, iV ae), (85, iV (p.last + 1)), (86, iV (m : Int)), (12, iV (m : Int)), (15, iV jv), (17, .bool (bq rs)), (146, sV rg2 Ls.length rc2), (147, iV (Ls.length : Int)), (148, iV (j : Int)), (19, pA b4)], [(b4, aO #[iV (elS Ls j).1, iV (elS Ls j).2] 23), (rg2, cO ((Ls).flatMap spR ++ rsp2) 23), (b1, aO #[.slice p.ba p.bs.length p.bc, iV p.near, iV p.last, .slice p.ta p.ts.length p.tc] 33)]⟩) (acc := [(.bool true, .bool true)]) (by kernel_rfl) (by kernel_rfl) ⟨rfl, trivial⟩ ?_
                      refine run_end (fn := f6) rfl (Nat.le_refl _) (by kernel_rfl) [] [.bool false] (e := []) (by kernel_rfl) trivial (fun w1 k1 h1 => ?_)
                      exfalso
                      omega
                  | true =>
                    have hp7 := of_decide_eq_true hd7
                    refine drawW 33 [{ val := fun _ => pA b4, slots := [19] },
                                          { val := fun _ => iV (elS Ls j).1, slots := [153], reads := [0] },
                                          { val := fun _ => .pointer (some ⟨b4, 1, none⟩), slots := [19] },
                                          { val := fun _ => iV (elS Ls j).2, slots := [155], reads := [0] },
                                          { val := fun _ => .bool false, slots := [154, 156] },
                                          { val := fun _ => .bool false, slots := [157] },
                                          { val := fun _ => pA b4, slots := [19, 158] },
                                          { val := fun _ => iV (elS Ls j).1, slots := [158, 159], reads := [0] },
                                          { val := fun _ => .bool true, slots := [158, 160] },
                                          { val := fun _ => .bool true, slots := [158, 161] },
                                          { val := fun _ => .bool true, slots := [162] },
                                          { slots := [163] },
                                          { slots := [163] },
                                          { slots := [163] },
                                          { slots := [163] },
                                          { slots := [163] },
                                          { val := fun _ => .bool true, slots := [163, 168] },
                                          { val := fun _ => .bool true, slots := [169] },
                                          { slots := [170] },
                                          { slots := [170] },
                                          { slots := [170] },
                                          { slots := [173] },
                                          { slots := [173] },
                                          { slots := [173] },
                                          { slots := [173] },
                                          { slots := [173] },
                                          { slots := [173] },
                                          { slots := [173] },
                                          { slots := [173] },
                                          { slots := [173] },
                                          { slots := [173] },
                                          { slots := [170] },
                                          { val := fun _ => .bool true, slots := [170, 184] }] [[], [0], [], [2], [0, 1, 2, 3], [0, 1, 2, 3, 4], [0, 1, 2, 3, 4, 5], [0, 1, 2, 3, 4, 5, 6], [0, 1, 2, 3, 4, 5, 6, 7], [0, 1, 2, 3, 4, 5, 6, 7, 8], [0, 1, 2, 3, 4, 5, 6, 7, 8, 9], [0, 1, 2, 3, 4, 5, 6, 7, 8, 9, 10], [0, 1, 2, 3, 4, 5, 6, 7, 8, 9, 10, 11], [0, 1, 2, 3, 4, 5, 6, 7, 8, 9, 10], [0, 1, 2, 3, 4, 5, 6, 7, 8, 9, 10, 13], [0, 1, 2, 3, 4, 5, 6, 7, 8, 9, 10, 11, 12, 13, 14], [0, 1, 2, 3, 4, 5, 6, 7, 8, 9, 10, 11, 12, 13, 14, 15], [0, 1, 2, 3, 4, 5, 6, 7, 8, 9, 10, 11, 12, 13, 14, 15, 16], [0, 1, 2, 3, 4, 5, 6, 7, 8, 9, 10, 11, 12, 13, 14, 15, 16, 17], [0, 1, 2, 3, 4, 5, 6, 7, 8, 9, 10, 11, 12, 13, 14, 15, 16, 17, 18], [0, 1, 2, 3, 4, 5, 6, 7, 8, 9, 10, 11, 12, 13, 14, 15, 16, 17, 18, 19], [0, 1, 2, 3, 4, 5, 6, 7, 8, 9, 10, 11, 12, 13, 14, 15, 16, 17, 18, 19, 20], [0, 1, 2, 3, 4, 5, 6, 7, 8, 9, 10, 11, 12, 13, 14, 15, 16, 17, 18, 19, 20, 21], [0, 1, 2, 3, 4, 5, 6, 7, 8, 9, 10, 11, 12, 13, 14, 15, 16, 17, 18, 19, 20], [0, 1, 2, 3, 4, 5, 6, 7, 8, 9, 10, 11, 12, 13, 14, 15, 16, 17, 18, 19, 20], [0, 1, 2, 3, 4, 5, 6, 7, 8, 9, 10, 11, 12, 13, 14, 15, 16, 17, 18, 19, 20, 24], [0, 1, 2, 3, 4, 5, 6, 7, 8, 9, 10, 11, 12, 13, 14, 15, 16, 17, 18, 19, 20, 23, 24, 25], [0, 1, 2, 3, 4, 5, 6, 7, 8, 9, 10, 11, 12, 13, 14, 15, 16, 17, 18, 19, 20, 23, 24, 25, 26], [0, 1, 2, 3, 4, 5, 6, 7, 8, 9, 10, 11, 12, 13, 14, 15, 16, 17, 18, 19, 20, 23, 24, 25, 26, 27], [0, 1, 2, 3, 4, 5, 6, 7, 8, 9, 10, 11, 12, 13, 14, 15, 16, 17, 18, 19, 20, 23, 24, 25, 26, 27, 28], [0, 1, 2, 3, 4, 5, 6, 7, 8, 9, 10, 11, 12, 13, 14, 15, 16, 17, 18, 19, 20, 21, 22, 23, 24, 25, 26, 27, 28, 29], [0, 1, 2, 3, 4, 5, 6, 7, 8, 9, 10, 11, 12, 13, 14, 15, 16, 17, 18, 19, 20, 21, 22, 23, 24, 25, 26, 27, 28, 29, 30], [0, 1, 2, 3, 4, 5, 6, 7, 8, 9, 10, 11, 12, 13, 14, 15, 16, 17, 18, 19, 20, 21, 22, 23, 24, 25, 26, 27, 28, 29, 30, 31]] (by kernel_rfl) (by kernel_rfl) (by kernel_rfl) (by kernel_rfl) [2, 4, 5, 6, 8, 9, 10, 11, 85, 86, 12, 15, 17, 146, 147, 148, 19, 185] [0, 1, 2] (by kernel_rfl)
                                          ⟨⟨⟨⟨⟨⟨⟨⟨⟨⟨⟨⟨⟨⟨⟨⟨⟨⟨⟨⟨⟨⟨⟨⟨⟨⟨⟨⟨⟨⟨⟨⟨⟨trivial,
                                          tri_quietW (fun β => []) [] [] (fun β => []) (by kernel_rfl) (fun β extra => by kernel_rfl) (by kernel_rfl) (fun β => trivial)⟩,
                                          tri_quietW (fun β => []) [0] [0] (fun β => [(pA b4, pA b4)]) (by kernel_rfl) (fun β extra => by kernel_rfl) (by kernel_rfl) (fun β => ⟨rfl, trivial⟩)⟩,
                                          tri_quietW (fun β => []) [] [] (fun β => []) (by kernel_rfl) (fun β extra => by kernel_rfl) (by kernel_rfl) (fun β => trivial)⟩,
                                          tri_quietW (fun β => []) [0] [0] (fun β => [(pA b4, pA b4)]) (by kernel_rfl) (fun β extra => by kernel_rfl) (by kernel_rfl) (fun β => ⟨rfl, trivial⟩)⟩,
                                          tri_quietW (fun β => [(157, .bool false)]) [] [] (fun β => [(.bool (decide ((elS Ls j).2 < (elS Ls j).1)), .bool false)]) (by kernel_rfl) (fun β extra => by kernel_rfl) (by kernel_rfl) (fun β => ⟨(bo hd6), trivial⟩)⟩,
                                          tri_quietW (fun β => []) [] [] (fun β => []) (by kernel_rfl) (fun β extra => by kernel_rfl) (by kernel_rfl) (fun β => trivial)⟩,
                                          tri_quietW (fun β => []) [] [] (fun β => []) (by kernel_rfl) (fun β extra => by kernel_rfl) (by kernel_rfl) (fun β => trivial)⟩,
                                          tri_quietW (fun β => []) [0] [0] (fun β => [(pA b4, pA b4)]) (by kernel_rfl) (fun β extra => by kernel_rfl) (by kernel_rfl) (fun β => ⟨rfl, trivial⟩)⟩,
                                          tri_quietW (fun β => [(161, .bool true)]) [] [] (fun β => [(.bool (decide ((elS Ls j).1 < 0)), .bool true)]) (by kernel_rfl) (fun β extra => by kernel_rfl) (by kernel_rfl) (fun β => ⟨(bo hd7), trivial⟩)⟩,
                                          tri_quietW (fun β => []) [] [] (fun β => []) (by kernel_rfl) (fun β extra => by kernel_rfl) (by kernel_rfl) (fun β => trivial)⟩,
                                          tri_quietW (fun β => []) [] [] (fun β => []) (by kernel_rfl) (fun β extra => by kernel_rfl) (by kernel_rfl) (fun β => trivial)⟩,
                                          tri_quietW (fun β => []) [] [] (fun β => []) (by kernel_rfl) (fun β extra => by kernel_rfl) (by kernel_rfl) (fun β => trivial)⟩,
                                          tri_quietW (fun β => []) [] [] (fun β => []) (by kernel_rfl) (fun β extra => by kernel_rfl) (by kernel_rfl) (fun β => trivial)⟩,
                                          tri_quietW (fun β => []) [] [] (fun β => []) (by kernel_rfl) (fun β extra => by kernel_rfl) (by kernel_rfl) (fun β => trivial)⟩,
                                          tri_quietW (fun β => []) [] [] (fun β => []) (by kernel_rfl) (fun β extra => by kernel_rfl) (by kernel_rfl) (fun β => trivial)⟩,
                                          tri_quietW (fun β => []) [] [] (fun β => []) (by kernel_rfl) (fun β extra => by kernel_rfl) (by kernel_rfl) (fun β => trivial)⟩,
                                          tri_quietW (fun β => []) [] [] (fun β => []) (by kernel_rfl) (fun β extra => by kernel_rfl) (by kernel_rfl) (fun β => trivial)⟩,
                                          tri_quietW (fun β => []) [] [] (fun β => []) (by kernel_rfl) (fun β extra => by kernel_rfl) (by kernel_rfl) (fun β => trivial)⟩,
                                          tri_quietW (fun β => []) [] [] (fun β => []) (by kernel_rfl) (fun β extra => by kernel_rfl) (by kernel_rfl) (fun β => trivial)⟩,
                                          tri_quietW (fun β => []) [] [] (fun β => []) (by kernel_rfl) (fun β extra => by kernel_rfl) (by kernel_rfl) (fun β => trivial)⟩,
                                          tri_quietW (fun β => []) [] [] (fun β => []) (by kernel_rfl) (fun β extra => by kernel_rfl) (by kernel_rfl) (fun β => trivial)⟩,
                                          tri_quietW (fun β => []) [] [] (fun β => []) (by kernel_rfl) (fun β extra => by kernel_rfl) (by kernel_rfl) (fun β => trivial)⟩,
                                          tri_quietW (fun β => []) [] [] (fun β => []) (by kernel_rfl) (fun β extra => by kernel_rfl) (by kernel_rfl) (fun β => trivial)⟩,
                                          tri_quietW (fun β => []) [] [] (fun β => []) (by kernel_rfl) (fun β extra => by kernel_rfl) (by kernel_rfl) (fun β => trivial)⟩,
                                          tri_quietW (fun β => []) [] [] (fun β => []) (by kernel_rfl) (fun β extra => by kernel_rfl) (by kernel_rfl) (fun β => trivial)⟩,
                                          tri_quietW (fun β => []) [] [] (fun β => []) (by kernel_rfl) (fun β extra => by kernel_rfl) (by kernel_rfl) (fun β => trivial)⟩,
                                          tri_quietW (fun β => []) [] [] (fun β => []) (by kernel_rfl) (fun β extra => by kernel_rfl) (by kernel_rfl) (fun β => trivial)⟩,
                                          tri_quietW (fun β => []) [] [] (fun β => []) (by kernel_rfl) (fun β extra => by kernel_rfl) (by kernel_rfl) (fun β => trivial)⟩,
                                          tri_quietW (fun β => []) [] [] (fun β => []) (by kernel_rfl) (fun β extra => by kernel_rfl) (by kernel_rfl) (fun β => trivial)⟩,
                                          tri_quietW (fun β => []) [] [] (fun β => []) (by kernel_rfl) (fun β extra => by kernel_rfl) (by kernel_rfl) (fun β => trivial)⟩,
                                          tri_quietW (fun β => []) [] [] (fun β => []) (by kernel_rfl) (fun β extra => by kernel_rfl) (by kernel_rfl) (fun β => trivial)⟩,
                                          tri_quietW (fun β => []) [] [] (fun β => []) (by kernel_rfl) (fun β extra => by kernel_rfl) (by kernel_rfl) (fun β => trivial)⟩,
                                          tri_quietW (fun β => []) [] [] (fun β => []) (by kernel_rfl) (fun β extra => by kernel_rfl) (by kernel_rfl) (fun β => trivial)⟩
                                          (fun β => ⟨[(2, pA b1), (4, .bool false), (5, iV (b : Int)), (6, sV rg2 Ls.length rc2), (8, iV fv), (9, iV fe), (10, iV av), (11, iV ae), (85, iV (p.last + 1)), (86, iV (m : Int)), (12, iV (m : Int)), (15, iV jv), (17, .bool (bq rs)), (146, sV rg2 Ls.length rc2), (147, iV (Ls.length : Int)), (148, iV (j : Int)), (19, pA b4), (185, .bool true)], [(b4, aO #[iV (elS Ls j).1, iV (elS Ls j).2] 23), (rg2, cO ((Ls).flatMap spR ++ rsp2) 23), (b1, aO #[.slice p.ba p.bs.length p.bc, iV p.near, iV p.last, .slice p.ta p.ts.length p.tc] 33)]⟩) (fun β => by kernel_rfl) (fun β5 => ?_)
                    refine run_auto [] 5 [true] [] [2, 4, 5, 6, 8, 9, 10, 11, 85, 86, 12, 15, 17, 146, 147, 148, 19] [0, 1, 2] (st' := ⟨[(2, pA b1), (4, .bool false), (5, iV (b : Int)), (6, sV rg2 Ls.length rc2), (8, iV fv), (9, iV fe), (10, iV av), (11, iV ae), (85, iV (p.last + 1)), (86, iV (m : Int)), (12, iV (m : Int)), (15, iV jv), (17, .bool (bq rs)), (146, sV rg2 Ls.length rc2), (147, iV (Ls.length : Int)), (148, iV (j : Int)), (19, pA b4)], [(b4, aO #[iV (elS Ls j).1, iV (elS Ls j).2] 23), (rg2, cO ((Ls).flatMap spR ++ rsp2) 23), (b1, aO #[.slice p.ba p.bs.length p.bc, iV p.near, iV p.last, .slice p.ta p.ts.length p.tc] 33)]⟩) (acc := [(.bool true, .bool true)]) (by kernel_rfl) (by kernel_rfl) ⟨rfl, trivial⟩ ?_
                    refine run_end (fn := f6) rfl (Nat.le_refl _) (by kernel_rfl) [] [.bool false] (e := []) (by kernel_rfl) trivial (fun w1 k1 h1 => ?_)
                    exfalso
                    omega
                | true =>
                  have hp6 := of_decide_eq_true hd6
                  refine drawW 33 [{ val := fun _ => pA b4, slots := [19] },
                                      { val := fun _ => iV (elS Ls j).1, slots := [153], reads := [0] },
                                      { val := fun _ => .pointer (some ⟨b4, 1, none⟩), slots := [19] },
                                      { val := fun _ => iV (elS Ls j).2, slots := [155], reads := [0] },
                                      { val := fun _ => .bool true, slots := [154, 156] },
                                      { val := fun _ => .bool true, slots := [157] },
                                      { slots := [158] },
                                      { slots := [158] },
                                      { slots := [158] },
                                      { val := fun _ => .bool true, slots := [158, 161] },
                                      { val := fun _ => .bool true, slots := [162] },
                                      { slots := [163] },
                                      { slots := [163] },
                                      { slots := [163] },
                                      { slots := [163] },
                                      { slots := [163] },
                                      { val := fun _ => .bool true, slots := [163, 168] },
                                      { val := fun _ => .bool true, slots := [169] },
                                      { slots := [170] },
                                      { slots := [170] },
                                      { slots := [170] },
                                      { slots := [173] },
                                      { slots := [173] },
                                      { slots := [173] },
                                      { slots := [173] },
                                      { slots := [173] },
                                      { slots := [173] },
                                      { slots := [173] },
                                      { slots := [173] },
                                      { slots := [173] },
                                      { slots := [173] },
                                      { slots := [170] },
                                      { val := fun _ => .bool true, slots := [170, 184] }] [[], [0], [], [2], [0, 1, 2, 3], [0, 1, 2, 3, 4], [0, 1, 2, 3, 4, 5], [0, 1, 2, 3, 4, 5, 6], [0, 1, 2, 3, 4, 5, 6, 7], [0, 1, 2, 3, 4, 5, 6, 7, 8], [0, 1, 2, 3, 4, 5, 6, 7, 8, 9], [0, 1, 2, 3, 4, 5, 6, 7, 8, 9, 10], [0, 1, 2, 3, 4, 5, 6, 7, 8, 9, 10, 11], [0, 1, 2, 3, 4, 5, 6, 7, 8, 9, 10], [0, 1, 2, 3, 4, 5, 6, 7, 8, 9, 10, 13], [0, 1, 2, 3, 4, 5, 6, 7, 8, 9, 10, 11, 12, 13, 14], [0, 1, 2, 3, 4, 5, 6, 7, 8, 9, 10, 11, 12, 13, 14, 15], [0, 1, 2, 3, 4, 5, 6, 7, 8, 9, 10, 11, 12, 13, 14, 15, 16], [0, 1, 2, 3, 4, 5, 6, 7, 8, 9, 10, 11, 12, 13, 14, 15, 16, 17], [0, 1, 2, 3, 4, 5, 6, 7, 8, 9, 10, 11, 12, 13, 14, 15, 16, 17, 18], [0, 1, 2, 3, 4, 5, 6, 7, 8, 9, 10, 11, 12, 13, 14, 15, 16, 17, 18, 19], [0, 1, 2, 3, 4, 5, 6, 7, 8, 9, 10, 11, 12, 13, 14, 15, 16, 17, 18, 19, 20], [0, 1, 2, 3, 4, 5, 6, 7, 8, 9, 10, 11, 12, 13, 14, 15, 16, 17, 18, 19, 20, 21], [0, 1, 2, 3, 4, 5, 6, 7, 8, 9, 10, 11, 12, 13, 14, 15, 16, 17, 18, 19, 20], [0, 1, 2, 3, 4, 5, 6, 7, 8, 9, 10, 11, 12, 13, 14, 15, 16, 17, 18, 19, 20], [0, 1, 2, 3, 4, 5, 6, 7, 8, 9, 10, 11, 12, 13, 14, 15, 16, 17, 18, 19, 20, 24], [0, 1, 2, 3, 4, 5, 6, 7, 8, 9, 10, 11, 12, 13, 14, 15, 16, 17, 18, 19, 20, 23, 24, 25], [0, 1, 2, 3, 4, 5, 6, 7, 8, 9, 10, 11, 12, 13, 14, 15, 16, 17, 18, 19, 20, 23, 24, 25, 26], [0, 1, 2, 3, 4, 5, 6, 7, 8, 9, 10, 11, 12, 13, 14, 15, 16, 17, 18, 19, 20, 23, 24, 25, 26, 27], [0, 1, 2, 3, 4, 5, 6, 7, 8, 9, 10, 11, 12, 13, 14, 15, 16, 17, 18, 19, 20, 23, 24, 25, 26, 27, 28], [0, 1, 2, 3, 4, 5, 6, 7, 8, 9, 10, 11, 12, 13, 14, 15, 16, 17, 18, 19, 20, 21, 22, 23, 24, 25, 26, 27, 28, 29], [0, 1, 2, 3, 4, 5, 6, 7, 8, 9, 10, 11, 12, 13, 14, 15, 16, 17, 18, 19, 20, 21, 22, 23, 24, 25, 26, 27, 28, 29, 30], [0, 1, 2, 3, 4, 5, 6, 7, 8, 9, 10, 11, 12, 13, 14, 15, 16, 17, 18, 19, 20, 21, 22, 23, 24, 25, 26, 27, 28, 29, 30, 31]] (by kernel_rfl) (by kernel_rfl) (by kernel_rfl) (by kernel_rfl) [2, 4, 5, 6, 8, 9, 10, 11, 85, 86, 12, 15, 17, 146, 147, 148, 19, 185] [0, 1, 2] (by kernel_rfl)
                                      ⟨⟨⟨⟨⟨⟨⟨⟨⟨⟨⟨⟨⟨⟨⟨⟨⟨⟨⟨⟨⟨⟨⟨⟨⟨⟨⟨⟨⟨⟨⟨⟨⟨trivial,
                                      tri_quietW (fun β => []) [] [] (fun β => []) (by kernel_rfl) (fun β extra => by kernel_rfl) (by kernel_rfl) (fun β => trivial)⟩,
                                      tri_quietW (fun β => []) [0] [0] (fun β => [(pA b4, pA b4)]) (by kernel_rfl) (fun β extra => by kernel_rfl) (by kernel_rfl) (fun β => ⟨rfl, trivial⟩)⟩,
                                      tri_quietW (fun β => []) [] [] (fun β => []) (by kernel_rfl) (fun β extra => by kernel_rfl) (by kernel_rfl) (fun β => trivial)⟩,
                                      tri_quietW (fun β => []) [0] [0] (fun β => [(pA b4, pA b4)]) (by kernel_rfl) (fun β extra => by kernel_rfl) (by kernel_rfl) (fun β => ⟨rfl, trivial⟩)⟩,
                                      tri_quietW (fun β => [(157, .bool true)]) [] [] (fun β => [(.bool (decide ((elS Ls j).2 < (elS Ls j).1)), .bool true)]) (by kernel_rfl) (fun β extra => by kernel_rfl) (by kernel_rfl) (fun β => ⟨(bo hd6), trivial⟩)⟩,
                                      tri_quietW (fun β => []) [] [] (fun β => []) (by kernel_rfl) (fun β extra => by kernel_rfl) (by kernel_rfl) (fun β => trivial)⟩,
                                      tri_quietW (fun β => []) [] [] (fun β => []) (by kernel_rfl) (fun β extra => by kernel_rfl) (by kernel_rfl) (fun β => trivial)⟩,
                                      tri_quietW (fun β => []) [] [] (fun β => []) (by kernel_rfl) (fun β extra => by kernel_rfl) (by kernel_rfl) (fun β => trivial)⟩,
                                      tri_quietW (fun β => []) [] [] (fun β => []) (by kernel_rfl) (fun β extra => by kernel_rfl) (by kernel_rfl) (fun β => trivial)⟩,
                                      tri_quietW (fun β => []) [] [] (fun β => []) (by kernel_rfl) (fun β extra => by kernel_rfl) (by kernel_rfl) (fun β => trivial)⟩,
                                      tri_quietW (fun β => []) [] [] (fun β => []) (by kernel_rfl) (fun β extra => by kernel_rfl) (by kernel_rfl) (fun β => trivial)⟩,
                                      tri_quietW (fun β => []) [] [] (fun β => []) (by kernel_rfl) (fun β extra => by kernel_rfl) (by kernel_rfl) (fun β => trivial)⟩,
                                      tri_quietW (fun β => []) [] [] (fun β => []) (by kernel_rfl) (fun β extra => by kernel_rfl) (by kernel_rfl) (fun β => trivial)⟩,
                                      tri_quietW (fun β => []) [] [] (fun β => []) (by kernel_rfl) (fun β extra => by kernel_rfl) (by kernel_rfl) (fun β => trivial)⟩,
                                      tri_quietW (fun β => []) [] [] (fun β => []) (by kernel_rfl) (fun β extra => by kernel_rfl) (by kernel_rfl) (fun β => trivial)⟩,
                                      tri_quietW (fun β => []) [] [] (fun β => []) (by kernel_rfl) (fun β extra => by kernel_rfl) (by kernel_rfl) (fun β => trivial)⟩,
                                      tri_quietW (fun β => []) [] [] (fun β => []) (by kernel_rfl) (fun β extra => by kernel_rfl) (by kernel_rfl) (fun β => trivial)⟩,
                                      tri_quietW (fun β => []) [] [] (fun β => []) (by kernel_rfl) (fun β extra => by kernel_rfl) (by kernel_rfl) (fun β => trivial)⟩,
                                      tri_quietW (fun β => []) [] [] (fun β => []) (by kernel_rfl) (fun β extra => by kernel_rfl) (by kernel_rfl) (fun β => trivial)⟩,
                                      tri_quietW (fun β => []) [] [] (fun β => []) (by kernel_rfl) (fun β extra => by kernel_rfl) (by kernel_rfl) (fun β => trivial)⟩,
                                      tri_quietW (fun β => []) [] [] (fun β => []) (by kernel_rfl) (fun β extra => by kernel_rfl) (by kernel_rfl) (fun β => trivial)⟩,
                                      tri_quietW (fun β => []) [] [] (fun β => []) (by kernel_rfl) (fun β extra => by kernel_rfl) (by kernel_rfl) (fun β => trivial)⟩,
                                      tri_quietW (fun β => []) [] [] (fun β => []) (by kernel_rfl) (fun β extra => by kernel_rfl) (by kernel_rfl) (fun β => trivial)⟩,
                                      tri_quietW (fun β => []) [] [] (fun β => []) (by kernel_rfl) (fun β extra => by kernel_rfl) (by kernel_rfl) (fun β => trivial)⟩,
                                      tri_quietW (fun β => []) [] [] (fun β => []) (by kernel_rfl) (fun β extra => by kernel_rfl) (by kernel_rfl) (fun β => trivial)⟩,
                                      tri_quietW (fun β => []) [] [] (fun β => []) (by kernel_rfl) (fun β extra => by kernel_rfl) (by kernel_rfl) (fun β => trivial)⟩,
                                      tri_quietW (fun β => []) [] [] (fun β => []) (by kernel_rfl) (fun β extra => by kernel_rfl) (by kernel_rfl) (fun β => trivial)⟩,
                                      tri_quietW (fun β => []) [] [] (fun β => []) (by kernel_rfl) (fun β extra => by kernel_rfl) (by kernel_rfl) (fun β => trivial)⟩,
                                      tri_quietW (fun β => []) [] [] (fun β => []) (by kernel_rfl) (fun β extra => by kernel_rfl) (by kernel_rfl) (fun β => trivial)⟩,
                                      tri_quietW (fun β => []) [] [] (fun β => []) (by kernel_rfl) (fun β extra => by kernel_rfl) (by kernel_rfl) (fun β => trivial)⟩,
                                      tri_quietW (fun β => []) [] [] (fun β => []) (by kernel_rfl) (fun β extra => by kernel_rfl) (by kernel_rfl) (fun β => trivial)⟩,
                                      tri_quietW (fun β => []) [] [] (fun β => []) (by kernel_rfl) (fun β extra => by kernel_rfl) (by kernel_rfl) (fun β => trivial)⟩,
                                      tri_quietW (fun β => []) [] [] (fun β => []) (by kernel_rfl) (fun β extra => by kernel_rfl) (by kernel_rfl) (fun β => trivial)⟩
                                      (fun β => ⟨[(2, pA b1), (4, .bool false), (5, iV (b : Int)), (6, sV rg2 Ls.length rc2), (8, iV fv), (9, iV fe), (10, iV av), (11, iV ae), (85, iV (p.last + 1)), (86, iV (m : Int)), (12, iV (m : Int)), (15, iV jv), (17, .bool (bq rs)), (146, sV rg2 Ls.length rc2), (147, iV (Ls.length : Int)), (148, iV (j : Int)), (19, pA b4), (185, .bool true)], [(b4, aO #[iV (elS Ls j).1, iV (elS Ls j).2] 23), (rg2, cO ((Ls).flatMap spR ++ rsp2) 23), (b1, aO #[.slice p.ba p.bs.length p.bc, iV p.near, iV p.last, .slice p.ta p.ts.length p.tc] 33)]⟩) (fun β => by kernel_rfl) (fun β5 => ?_)
                  refine run_auto [] 5 [true] [] [2, 4, 5, 6, 8, 9, 10, 11, 85, 86, 12, 15, 17, 146, 147, 148, 19] [0, 1, 2] (st' := ⟨[(2, pA b1), (4, .bool false), (5, iV (b : Int)), (6, sV rg2 Ls.length rc2), (8, iV fv), (9, iV fe), (10, iV av), (11, iV ae), (85, iV (p.last + 1)), (86, iV (m : Int)), (12, iV (m : Int)), (15, iV jv), (17, .bool (bq rs)), (146, sV rg2 Ls.length rc2), (147, iV (Ls.length : Int)), (148, iV (j : Int)), (19, pA b4)], [(b4, aO #[iV (elS Ls j).1, iV (elS Ls j).2] 23), (rg2, cO ((Ls).flatMap spR ++ rsp2) 23), (b1, aO #[.slice p.ba p.bs.length p.bc, iV p.near, iV p.last, .slice p.ta p.ts.length p.tc] 33)]⟩) (acc := [(.bool true, .bool true)]) (by kernel_rfl) (by kernel_rfl) ⟨rfl, trivial⟩ ?_
                  refine run_end (fn := f6) rfl (Nat.le_refl _) (by kernel_rfl) [] [.bool false] (e := []) (by kernel_rfl) trivial (fun w1 k1 h1 => ?_)
                  exfalso
                  omega
            · skip
              cases hd5 : (jv == 2) with
              | false =>
                have hp5 : ¬ jv = 2 := by simpa using hd5
                cases hd6 : (decide ((-p.near) ≤ (p.n.out b m).1)) with
                | false =>
                  have hp6 := of_decide_eq_false hd6
                  cases hd7 : (jv != 0) with
                  | false =>
                    have hp7 : jv = 0 := by simpa using hd7
                    refine run_auto [(104, .bool false), (107, .bool false), (111, .bool false), (116, iV (-p.near)), (117, .bool false), (125, .bool false), (129, .bool false)] 46 [false] [0, 2] [2, 4, 5, 6, 8, 9, 10, 11, 85, 86, 12, 15] [1, 2] (st' := ⟨[(2, pA b1), (4, .bool false), (5, iV (b : Int)), (6, sV rg2 Ls.length rc2), (8, iV fv), (9, iV fe), (10, iV av), (11, iV ae), (85, iV (p.last + 1)), (86, iV (m : Int)), (12, iV (m : Int)), (15, iV jv)], [(rg2, cO ((Ls).flatMap spR ++ rsp2) 23), (b1, aO #[.slice p.ba p.bs.length p.bc, iV p.near, iV p.last, .slice p.ta p.ts.length p.tc] 33)]⟩) (acc := [(.bool false, .bool false), (.bool (jv != 0), .bool false), (.bool false, .bool false), (.bool (decide ((-p.near) ≤ (p.n.out b m).1)), .bool false), (iV (IntKind.i64.wrap (0 - p.near)), iV (-p.near)), (pA b1, pA b1), (pA b3, pA b3), (.bool (jv == 2), .bool false), (.bool false, .bool false), (.bool false, .bool false)]) (by kernel_rfl) (by kernel_rfl) ⟨rfl, (bo hd7), rfl, (bo hd6), ((wr (by omega) (by omega)).trans (io (by omega))), rfl, rfl, (bo hd5), rfl, rfl, trivial⟩ ?_
                    exact run_eqK (by kernel_rfl) hjoin14
                  | true =>
                    have hp7 : ¬ jv = 0 := by simpa using hd7
                    cases hd8 : (decide (p.near < (p.n.out b m).1)) with
                    | false =>
                      have hp8 := of_decide_eq_false hd8
                      cases hd9 : (decide ((p.n.out b m).2 < (-p.near))) with
                      | false =>
                        have hp9 := of_decide_eq_false hd9
                        refine run_auto [(104, .bool false), (107, .bool false), (111, .bool false), (116, iV (-p.near)), (117, .bool false), (125, .bool false), (129, .bool true), (135, .bool false), (141, iV (-p.near)), (142, .bool false)] 46 [false] [0, 2, 0, 2, 0, 2] [2, 4, 5, 6, 8, 9, 10, 11, 85, 86, 12, 15] [1, 2] (st' := ⟨[(2, pA b1), (4, .bool false), (5, iV (b : Int)), (6, sV rg2 Ls.length rc2), (8, iV fv), (9, iV fe), (10, iV av), (11, iV ae), (85, iV (p.last + 1)), (86, iV (m : Int)), (12, iV (m : Int)), (15, iV jv)], [(rg2, cO ((Ls).flatMap spR ++ rsp2) 23), (b1, aO #[.slice p.ba p.bs.length p.bc, iV p.near, iV p.last, .slice p.ta p.ts.length p.tc] 33)]⟩) (acc := [(.bool false, .bool false), (.bool (decide ((p.n.out b m).2 < (-p.near))), .bool false), (iV (IntKind.i64.wrap (0 - p.near)), iV (-p.near)), (pA b1, pA b1), (pA b3, pA b3), (.bool (decide (p.near < (p.n.out b m).1)), .bool false), (pA b1, pA b1), (pA b3, pA b3), (.bool (jv != 0), .bool true), (.bool false, .bool false), (.bool (decide ((-p.near) ≤ (p.n.out b m).1)), .bool false), (iV (IntKind.i64.wrap (0 - p.near)), iV (-p.near)), (pA b1, pA b1), (pA b3, pA b3), (.bool (jv == 2), .bool false), (.bool false, .bool false), (.bool false, .bool false)]) (by kernel_rfl) (by kernel_rfl) ⟨rfl, (bo hd9), ((wr (by omega) (by omega)).trans (io (by omega))), rfl, rfl, (bo hd8), rfl, rfl, (bo hd7), rfl, (bo hd6), ((wr (by omega) (by omega)).trans (io (by omega))), rfl, rfl, (bo hd5), rfl, rfl, trivial⟩ ?_
                        exact run_eqK (by kernel_rfl) hjoin14
                      | true =>
                        have hp9 := of_decide_eq_true hd9
                        refine run_auto [(104, .bool false), (107, .bool false), (111, .bool false), (116, iV (-p.near)), (117, .bool false), (125, .bool false), (129, .bool true), (135, .bool false), (141, iV (-p.near)), (142, .bool true)] 50 [true] [0, 2, 0, 2, 0, 2] [2, 4, 5, 6, 8, 9, 10, 11, 85, 86, 12, 15] [1, 2] (st' := ⟨[(2, pA b1), (4, .bool false), (5, iV (b : Int)), (6, sV rg2 Ls.length rc2), (8, iV fv), (9, iV fe), (10, iV av), (11, iV ae), (85, iV (p.last + 1)), (86, iV (m : Int)), (12, iV (m : Int)), (15, iV jv)], [(rg2, cO ((Ls).flatMap spR ++ rsp2) 23), (b1, aO #[.slice p.ba p.bs.length p.bc, iV p.near, iV p.last, .slice p.ta p.ts.length p.tc] 33)]⟩) (acc := [(.bool true, .bool true), (.bool (decide ((p.n.out b m).2 < (-p.near))), .bool true), (iV (IntKind.i64.wrap (0 - p.near)), iV (-p.near)), (pA b1, pA b1), (pA b3, pA b3), (.bool (decide (p.near < (p.n.out b m).1)), .bool false), (pA b1, pA b1), (pA b3, pA b3), (.bool (jv != 0), .bool true), (.bool false, .bool false), (.bool (decide ((-p.near) ≤ (p.n.out b m).1)), .bool false), (iV (IntKind.i64.wrap (0 - p.near)), iV (-p.near)), (pA b1, pA b1), (pA b3, pA b3), (.bool (jv == 2), .bool false), (.bool false, .bool false), (.bool false, .bool false)]) (by kernel_rfl) (by kernel_rfl) ⟨rfl, (bo hd9), ((wr (by omega) (by omega)).trans (io (by omega))), rfl, rfl, (bo hd8), rfl, rfl, (bo hd7), rfl, (bo hd6), ((wr (by omega) (by omega)).trans (io (by omega))), rfl, rfl, (bo hd5), rfl, rfl, trivial⟩ ?_
                        refine run_end (fn := f6) rfl (Nat.le_refl _) (by kernel_rfl) [] [.bool false] (e := []) (by kernel_rfl) trivial (fun w1 k1 h1 => ?_)
                        exfalso
                        omega
                    | true =>
                      have hp8 := of_decide_eq_true hd8
                      refine run_auto [(104, .bool false), (107, .bool false), (111, .bool false), (116, iV (-p.near)), (117, .bool false), (125, .bool false), (129, .bool true), (135, .bool true)] 50 [true] [0, 2, 0, 2] [2, 4, 5, 6, 8, 9, 10, 11, 85, 86, 12, 15] [1, 2] (st' := ⟨[(2, pA b1), (4, .bool false), (5, iV (b : Int)), (6, sV rg2 Ls.length rc2), (8, iV fv), (9, iV fe), (10, iV av), (11, iV ae), (85, iV (p.last + 1)), (86, iV (m : Int)), (12, iV (m : Int)), (15, iV jv)], [(rg2, cO ((Ls).flatMap spR ++ rsp2) 23), (b1, aO #[.slice p.ba p.bs.length p.bc, iV p.near, iV p.last, .slice p.ta p.ts.length p.tc] 33)]⟩) (acc := [(.bool true, .bool true), (.bool (decide (p.near < (p.n.out b m).1)), .bool true), (pA b1, pA b1), (pA b3, pA b3), (.bool (jv != 0), .bool true), (.bool false, .bool false), (.bool (decide ((-p.near) ≤ (p.n.out b m).1)), .bool false), (iV (IntKind.i64.wrap (0 - p.near)), iV (-p.near)), (pA b1, pA b1), (pA b3, pA b3), (.bool (jv == 2), .bool false), (.bool false, .bool false), (.bool false, .bool false)]) (by kernel_rfl) (by kernel_rfl) ⟨rfl, (bo hd8), rfl, rfl, (bo hd7), rfl, (bo hd6), ((wr (by omega) (by omega)).trans (io (by omega))), rfl, rfl, (bo hd5), rfl, rfl, trivial⟩ ?_
                      refine run_end (fn := f6) rfl (Nat.le_refl _) (by kernel_rfl) [] [.bool false] (e := []) (by kernel_rfl) trivial (fun w1 k1 h1 => ?_)
                      exfalso
                      omega
                | true =>
                  have hp6 := of_decide_eq_true hd6
                  cases hd7 : (decide ((p.n.out b m).2 ≤ p.near)) with
                  | false =>
                    have hp7 := of_decide_eq_false hd7
                    cases hd8 : (jv != 0) with
                    | false =>
                      have hp8 : jv = 0 := by simpa using hd8
                      refine run_auto [(104, .bool false), (107, .bool false), (111, .bool false), (116, iV (-p.near)), (117, .bool true), (123, .bool false), (125, .bool false), (129, .bool false)] 46 [false] [0, 2, 0, 2] [2, 4, 5, 6, 8, 9, 10, 11, 85, 86, 12, 15] [1, 2] (st' := ⟨[(2, pA b1), (4, .bool false), (5, iV (b : Int)), (6, sV rg2 Ls.length rc2), (8, iV fv), (9, iV fe), (10, iV av), (11, iV ae), (85, iV (p.last + 1)), (86, iV (m : Int)), (12, iV (m : Int)), (15, iV jv)], [(rg2, cO ((Ls).flatMap spR ++ rsp2) 23), (b1, aO #[.slice p.ba p.bs.length p.bc, iV p.near, iV p.last, .slice p.ta p.ts.length p.tc] 33)]⟩) (acc := [(.bool false, .bool false), (.bool (jv != 0), .bool false), (.bool false, .bool false), (.bool (decide ((p.n.out b m).2 ≤ p.near)), .bool false), (pA b1, pA b1), (pA b3, pA b3), (.bool (decide ((-p.near) ≤ (p.n.out b m).1)), .bool true), (iV (IntKind.i64.wrap (0 - p.near)), iV (-p.near)), (pA b1, pA b1), (pA b3, pA b3), (.bool (jv == 2), .bool false), (.bool false, .bool false), (.bool false, .bool false)]) (by kernel_rfl) (by kernel_rfl) ⟨rfl, (bo hd8), rfl, (bo hd7), rfl, rfl, (bo hd6), ((wr (by omega) (by omega)).trans (io (by omega))), rfl, rfl, (bo hd5), rfl, rfl, trivial⟩ ?_
                      exact run_eqK (by kernel_rfl) hjoin14
                    | true =>
                      have hp8 : ¬ jv = 0 := by simpa using hd8
                      cases hd9 : (decide (p.near < (p.n.out b m).1)) with
                      | false =>
                        have hp9 := of_decide_eq_false hd9
                        cases hd10 : (decide ((p.n.out b m).2 < (-p.near))) with
                        | false =>
                          have hp10 := of_decide_eq_false hd10
                          refine run_auto [(104, .bool false), (107, .bool false), (111, .bool false), (116, iV (-p.near)), (117, .bool true), (123, .bool false), (125, .bool false), (129, .bool true), (135, .bool false), (141, iV (-p.near)), (142, .bool false)] 46 [false] [0, 2, 0, 2, 0, 2, 0, 2] [2, 4, 5, 6, 8, 9, 10, 11, 85, 86, 12, 15] [1, 2] (st' := ⟨[(2, pA b1), (4, .bool false), (5, iV (b : Int)), (6, sV rg2 Ls.length rc2), (8, iV fv), (9, iV fe), (10, iV av), (11, iV ae), (85, iV (p.last + 1)), (86, iV (m : Int)), (12, iV (m : Int)), (15, iV jv)], [(rg2, cO ((Ls).flatMap spR ++ rsp2) 23), (b1, aO #[.slice p.ba p.bs.length p.bc, iV p.near, iV p.last, .slice p.ta p.ts.length p.tc] 33)]⟩) (acc := [(.bool false, .bool false), (.bool (decide ((p.n.out b m).2 < (-p.near))), .bool false), (iV (IntKind.i64.wrap (0 - p.near)), iV (-p.near)), (pA b1, pA b1), (pA b3, pA b3), (.bool (decide (p.near < (p.n.out b m).1)), .bool false), (pA b1, pA b1), (pA b3, pA b3), (.bool (jv != 0), .bool true), (.bool false, .bool false), (.bool (decide ((p.n.out b m).2 ≤ p.near)), .bool false), (pA b1, pA b1), (pA b3, pA b3), (.bool (decide ((-p.near) ≤ (p.n.out b m).1)), .bool true), (iV (IntKind.i64.wrap (0 - p.near)), iV (-p.near)), (pA b1, pA b1), (pA b3, pA b3), (.bool (jv == 2), .bool false), (.bool false, .bool false), (.bool false, .bool false)]) (by kernel_rfl) (by kernel_rfl) ⟨rfl, (bo hd10), ((wr (by omega) (by omega)).trans (io (by omega))), rfl, rfl, (bo hd9), rfl, rfl, (bo hd8), rfl, (bo hd7), rfl, rfl, (bo hd6), ((wr (by omega) (by omega)).trans (io (by omega))), rfl, rfl, (bo hd5), rfl, rfl, trivial⟩ ?_
                          exact run_eqK (by kernel_rfl) hjoin14
                        | true =>
                          have hp10 := of_decide_eq_true hd10
                          refine run_auto [(104, .bool false), (107, .bool false), (111, .bool false), (116, iV (-p.near)), (117, .bool true), (123, .bool false), (125, .bool false), (129, .bool true), (135, .bool false), (141, iV (-p.near)), (142, .bool true)] 50 [true] [0, 2, 0, 2, 0, 2, 0, 2] [2, 4, 5, 6, 8, 9, 10, 11, 85, 86, 12, 15] [1, 2] (st' := ⟨[(2, pA b1), (4, .bool false), (5, iV (b : Int)), (6, sV rg2 Ls.length rc2), (8, iV fv), (9, iV fe), (10, iV av), (11, iV ae), (85, iV (p.last + 1)), (86, iV (m : Int)), (12, iV (m : Int)), (15, iV jv)], [(rg2, cO ((Ls).flatMap spR ++ rsp2) 23), (b1, aO #[.slice p.ba p.bs.length p.bc, iV p.near, iV p.last, .slice p.ta p.ts.length p.tc] 33)]⟩) (acc := [(.bool true, .bool true), (.bool (decide ((p.n.out b m).2 < (-p.near))), .bool true), (iV (IntKind.i64.wrap (0 - p.near)), iV (-p.near)), (pA b1, pA b1), (pA b3, pA b3), (.bool (decide (p.near < (p.n.out b m).1)), .bool false), (pA b1, pA b1), (pA b3, pA b3), (.bool (jv != 0), .bool true), (.bool false, .bool false), (.bool (decide ((p.n.out b m).2 ≤ p.near)), .bool false), (pA b1, pA b1), (pA b3, pA b3), (.bool (decide ((-p.near) ≤ (p.n.out b m).1)), .bool true), (iV (IntKind.i64.wrap (0 - p.near)), iV (-p.near)), (pA b1, pA b1), (pA b3, pA b3), (.bool (jv == 2), .bool false), (.bool false, .bool false), (.bool false, .bool false)]) (by kernel_rfl) (by kernel_rfl) ⟨rfl, (bo hd10), ((wr (by omega) (by omega)).trans (io (by omega))), rfl, rfl, (bo hd9), rfl, rfl, (bo hd8), rfl, (bo hd7), rfl, rfl, (bo hd6), ((wr (by omega) (by omega)).trans (io (by omega))), rfl, rfl, (bo hd5), rfl, rfl, trivial⟩ ?_
                          refine run_end (fn := f6) rfl (Nat.le_refl _) (by kernel_rfl) [] [.bool false] (e := []) (by kernel_rfl) trivial (fun w1 k1 h1 => ?_)
                          exfalso
                          omega
                      | true =>
                        have hp9 := of_decide_eq_true hd9
                        refine run_auto [(104, .bool false), (107, .bool false), (111, .bool false), (116, iV (-p.near)), (117, .bool true), (123, .bool false), (125, .bool false), (129, .bool true), (135, .bool true)] 50 [true] [0, 2, 0, 2, 0, 2] [2, 4, 5, 6, 8, 9, 10, 11, 85, 86, 12, 15] [1, 2] (st' := ⟨[(2, pA b1), (4, .bool false), (5, iV (b : Int)), (6, sV rg2 Ls.length rc2), (8, iV fv), (9, iV fe), (10, iV av), (11, iV ae), (85, iV (p.last + 1)), (86, iV (m : Int)), (12, iV (m : Int)), (15, iV jv)], [(rg2, cO ((Ls).flatMap spR ++ rsp2) 23), (b1, aO #[.slice p.ba p.bs.length p.bc, iV p.near, iV p.last, .slice p.ta p.ts.length p.tc] 33)]⟩) (acc := [(.bool true, .bool true), (.bool (decide (p.near < (p.n.out b m).1)), .bool true), (pA b1, pA b1), (pA b3, pA b3), (.bool (jv != 0), .bool true), (.bool false, .bool false), (.bool (decide ((p.n.out b m).2 ≤ p.near)), .bool false), (pA b1, pA b1), (pA b3, pA b3), (.bool (decide ((-p.near) ≤ (p.n.out b m).1)), .bool true), (iV (IntKind.i64.wrap (0 - p.near)), iV (-p.near)), (pA b1, pA b1), (pA b3, pA b3), (.bool (jv == 2), .bool false), (.bool false, .bool false), (.bool false, .bool false)]) (by kernel_rfl) (by kernel_rfl) ⟨rfl, (bo hd9), rfl, rfl, (bo hd8), rfl, (bo hd7), rfl, rfl, (bo hd6), ((wr (by omega) (by omega)).trans (io (by omega))), rfl, rfl, (bo hd5), rfl, rfl, trivial⟩ ?_
                        refine run_end (fn := f6) rfl (Nat.le_refl _) (by kernel_rfl) [] [.bool false] (e := []) (by kernel_rfl) trivial (fun w1 k1 h1 => ?_)
                        exfalso
                        omega
                  | true =>
                    have hp7 := of_decide_eq_true hd7
                    refine run_auto [(104, .bool false), (107, .bool false), (111, .bool false), (116, iV (-p.near)), (117, .bool true), (123, .bool true), (125, .bool true)] 50 [true] [0, 2, 0, 2] [2, 4, 5, 6, 8, 9, 10, 11, 85, 86, 12, 15] [1, 2] (st' := ⟨[(2, pA b1), (4, .bool false), (5, iV (b : Int)), (6, sV rg2 Ls.length rc2), (8, iV fv), (9, iV fe), (10, iV av), (11, iV ae), (85, iV (p.last + 1)), (86, iV (m : Int)), (12, iV (m : Int)), (15, iV jv)], [(rg2, cO ((Ls).flatMap spR ++ rsp2) 23), (b1, aO #[.slice p.ba p.bs.length p.bc, iV p.near, iV p.last, .slice p.ta p.ts.length p.tc] 33)]⟩) (acc := [(.bool true, .bool true), (.bool true, .bool true), (.bool (decide ((p.n.out b m).2 ≤ p.near)), .bool true), (pA b1, pA b1), (pA b3, pA b3), (.bool (decide ((-p.near) ≤ (p.n.out b m).1)), .bool true), (iV (IntKind.i64.wrap (0 - p.near)), iV (-p.near)), (pA b1, pA b1), (pA b3, pA b3), (.bool (jv == 2), .bool false), (.bool false, .bool false), (.bool false, .bool false)]) (by kernel_rfl) (by kernel_rfl) ⟨rfl, rfl, (bo hd7), rfl, rfl, (bo hd6), ((wr (by omega) (by omega)).trans (io (by omega))), rfl, rfl, (bo hd5), rfl, rfl, trivial⟩ ?_
                    refine run_end (fn := f6) rfl (Nat.le_refl _) (by kernel_rfl) [] [.bool false] (e := []) (by kernel_rfl) trivial (fun w1 k1 h1 => ?_)
                    exfalso
                    omega
              | true =>
                have hp5 : jv = 2 := by simpa using hd5
                cases hd6 : (decide ((-p.near) ≤ (p.n.out b m).1)) with
                | false =>
                  have hp6 := of_decide_eq_false hd6
                  refine run_auto [(104, .bool false), (107, .bool false), (111, .bool true), (116, iV (-p.near)), (117, .bool false), (125, .bool true)] 50 [true] [0, 2] [2, 4, 5, 6, 8, 9, 10, 11, 85, 86, 12, 15] [1, 2] (st' := ⟨[(2, pA b1), (4, .bool false), (5, iV (b : Int)), (6, sV rg2 Ls.length rc2), (8, iV fv), (9, iV fe), (10, iV av), (11, iV ae), (85, iV (p.last + 1)), (86, iV (m : Int)), (12, iV (m : Int)), (15, iV jv)], [(rg2, cO ((Ls).flatMap spR ++ rsp2) 23), (b1, aO #[.slice p.ba p.bs.length p.bc, iV p.near, iV p.last, .slice p.ta p.ts.length p.tc] 33)]⟩) (acc := [(.bool true, .bool true), (.bool true, .bool true), (.bool (decide ((-p.near) ≤ (p.n.out b m).1)), .bool false), (iV (IntKind.i64.wrap (0 - p.near)), iV (-p.near)), (pA b1, pA b1), (pA b3, pA b3), (.bool (jv == 2), .bool true), (.bool false, .bool false), (.bool false, .bool false)]) (by kernel_rfl) (by kernel_rfl) ⟨rfl, rfl, (bo hd6), ((wr (by omega) (by omega)).trans (io (by omega))), rfl, rfl, (bo hd5), rfl, rfl, trivial⟩ ?_
                  refine run_end (fn := f6) rfl (Nat.le_refl _) (by kernel_rfl) [] [.bool false] (e := []) (by kernel_rfl) trivial (fun w1 k1 h1 => ?_)
                  exfalso
                  omega
                | true =>
                  have hp6 := of_decide_eq_true hd6
                  cases hd7 : (decide ((p.n.out b m).2 ≤ p.near)) with
                  | false =>
                    have hp7 := of_decide_eq_false hd7
                    refine run_auto [(104, .bool false), (107, .bool false), (111, .bool true), (116, iV (-p.near)), (117, .bool true), (123, .bool false), (125, .bool true)] 50 [true] [0, 2, 0, 2] [2, 4, 5, 6, 8, 9, 10, 11, 85, 86, 12, 15] [1, 2] (st' := ⟨[(2, pA b1), (4, .bool false), (5, iV (b : Int)), (6, sV rg2 Ls.length rc2), (8, iV fv), (9, iV fe), (10, iV av), (11, iV ae), (85, iV (p.last + 1)), (86, iV (m : Int)), (12, iV (m : Int)), (15, iV jv)], [(rg2, cO ((Ls).flatMap spR ++ rsp2) 23), (b1, aO #[.slice p.ba p.bs.length p.bc, iV p.near, iV p.last, .slice p.ta p.ts.length p.tc] 33)]⟩) (acc := [(.bool true, .bool true), (.bool true, .bool true), (.bool (decide ((p.n.out b m).2 ≤ p.near)), .bool false), (pA b1, pA b1), (pA b3, pA b3), (.bool (decide ((-p.near) ≤ (p.n.out b m).1)), .bool true), (iV (IntKind.i64.wrap (0 - p.near)), iV (-p.near)), (pA b1, pA b1), (pA b3, pA b3), (.bool (jv == 2), .bool true), (.bool false, .bool false), (.bool false, .bool false)]) (by kernel_rfl) (by kernel_rfl) ⟨rfl, rfl, (bo hd7), rfl, rfl, (bo hd6), ((wr (by omega) (by omega)).trans (io (by omega))), rfl, rfl, (bo hd5), rfl, rfl, trivial⟩ ?_
                    refine run_end (fn := f6) rfl (Nat.le_refl _) (by kernel_rfl) [] [.bool false] (e := []) (by kernel_rfl) trivial (fun w1 k1 h1 => ?_)
                    exfalso
                    omega
                  | true =>
                    have hp7 := of_decide_eq_true hd7
                    cases hd8 : (jv != 0) with
                    | false =>
                      have hp8 : jv = 0 := by simpa using hd8
                      refine run_auto [(104, .bool false), (107, .bool false), (111, .bool true), (116, iV (-p.near)), (117, .bool true), (123, .bool true), (125, .bool false), (129, .bool false)] 46 [false] [0, 2, 0, 2] [2, 4, 5, 6, 8, 9, 10, 11, 85, 86, 12, 15] [1, 2] (st' := ⟨[(2, pA b1), (4, .bool false), (5, iV (b : Int)), (6, sV rg2 Ls.length rc2), (8, iV fv), (9, iV fe), (10, iV av), (11, iV ae), (85, iV (p.last + 1)), (86, iV (m : Int)), (12, iV (m : Int)), (15, iV jv)], [(rg2, cO ((Ls).flatMap spR ++ rsp2) 23), (b1, aO #[.slice p.ba p.bs.length p.bc, iV p.near, iV p.last, .slice p.ta p.ts.length p.tc] 33)]⟩) (acc := [(.bool false, .bool false), (.bool (jv != 0), .bool false), (.bool false, .bool false), (.bool (decide ((p.n.out b m).2 ≤ p.near)), .bool true), (pA b1, pA b1), (pA b3, pA b3), (.bool (decide ((-p.near) ≤ (p.n.out b m).1)), .bool true), (iV (IntKind.i64.wrap (0 - p.near)), iV (-p.near)), (pA b1, pA b1), (pA b3, pA b3), (.bool (jv == 2), .bool true), (.bool false, .bool false), (.bool false, .bool false)]) (by kernel_rfl) (by kernel_rfl) ⟨rfl, (bo hd8), rfl, (bo hd7), rfl, rfl, (bo hd6), ((wr (by omega) (by omega)).trans (io (by omega))), rfl, rfl, (bo hd5), rfl, rfl, trivial⟩ ?_
                      exact run_eqK (by kernel_rfl) hjoin14
                    | true =>
                      have hp8 : ¬ jv = 0 := by simpa using hd8
                      cases hd9 : (decide (p.near < (p.n.out b m).1)) with
                      | false =>
                        have hp9 := of_decide_eq_false hd9
                        cases hd10 : (decide ((p.n.out b m).2 < (-p.near))) with
                        | false =>
                          have hp10 := of_decide_eq_false hd10
                          refine run_auto [(104, .bool false), (107, .bool false), (111, .bool true), (116, iV (-p.near)), (117, .bool true), (123, .bool true), (125, .bool false), (129, .bool true), (135, .bool false), (141, iV (-p.near)), (142, .bool false)] 46 [false] [0, 2, 0, 2, 0, 2, 0, 2] [2, 4, 5, 6, 8, 9, 10, 11, 85, 86, 12, 15] [1, 2] (st' := ⟨[(2, pA b1), (4, .bool false), (5, iV (b : Int)), (6, sV rg2 Ls.length rc2), (8, iV fv), (9, iV fe), (10, iV av), (11, iV ae), (85, iV (p.last + 1)), (86, iV (m : Int)), (12, iV (m : Int)), (15, iV jv)], [(rg2, cO ((Ls).flatMap spR ++ rsp2) 23), (b1, aO #[.slice p.ba p.bs.length p.bc, iV p.near, iV p.last, .slice p.ta p.ts.length p.tc] 33)]⟩) (acc := [(.bool false, .bool false), (.bool (decide ((p.n.out b m).2 < (-p.near))), .bool false), (iV (IntKind.i64.wrap (0 - p.near)), iV (-p.near)), (pA b1, pA b1), (pA b3, pA b3), (.bool (decide (p.near < (p.n.out b m).1)), .bool false), (pA b1, pA b1), (pA b3, pA b3), (.bool (jv != 0), .bool true), (.bool false, .bool false), (.bool (decide ((p.n.out b m).2 ≤ p.near)), .bool true), (pA b1, pA b1), (pA b3, pA b3), (.bool (decide ((-p.near) ≤ (p.n.out b m).1)), .bool true), (iV (IntKind.i64.wrap (0 - p.near)), iV (-p.near)), (pA b1, pA b1), (pA b3, pA b3), (.bool (jv == 2), .bool true), (.bool false, .bool false), (.bool false, .bool false)]) (by kernel_rfl) (by kernel_rfl) ⟨rfl, (bo hd10), ((wr (by omega) (by omega)).trans (io (by omega))), rfl, rfl, (bo hd9), rfl, rfl, (bo hd8), rfl, (bo hd7), rfl, rfl, (bo hd6), ((wr (by omega) (by omega)).trans (io (by omega))), rfl, rfl, (bo hd5), rfl, rfl, trivial⟩ ?_
                          exact run_eqK (by kernel_rfl) hjoin14
                        | true =>
                          have hp10 := of_decide_eq_true hd10
                          refine run_auto [(104, .bool false), (107, .bool false), (111, .bool true), (116, iV (-p.near)), (117, .bool true), (123, .bool true), (125, .bool false), (129, .bool true), (135, .bool false), (141, iV (-p.near)), (142, .bool true)] 50 [true] [0, 2, 0, 2, 0, 2, 0, 2] [2, 4, 5, 6, 8, 9, 10, 11, 85, 86, 12, 15] [1, 2] (st' := ⟨[(2, pA b1), (4, .bool false), (5, iV (b : Int)), (6, sV rg2 Ls.length rc2), (8, iV fv), (9, iV fe), (10, iV av), (11, iV ae), (85, iV (p.last + 1)), (86, iV (m : Int)), (12, iV (m : Int)), (15, iV jv)], [(rg2, cO ((Ls).flatMap spR ++ rsp2) 23), (b1, aO #[.slice p.ba p.bs.length p.bc, iV p.near, iV p.last, .slice p.ta p.ts.length p.tc] 33)]⟩) (acc := [(.bool true, .bool true), (.bool (decide ((p.n.out b m).2 < (-p.near))), .bool true), (iV (IntKind.i64.wrap (0 - p.near)), iV (-p.near)), (pA b1, pA b1), (pA b3, pA b3), (.bool (decide (p.near < (p.n.out b m).1)), .bool false), (pA b1, pA b1), (pA b3, pA b3), (.bool (jv != 0), .bool true), (.bool false, .bool false), (.bool (decide ((p.n.out b m).2 ≤ p.near)), .bool true), (pA b1, pA b1), (pA b3, pA b3), (.bool (decide ((-p.near) ≤ (p.n.out b m).1)), .bool true), (iV (IntKind.i64.wrap (0 - p.near)), iV (-p.near)), (pA b1, pA b1), (pA b3, pA b3), (.bool (jv == 2), .bool true), (.bool false, .bool false), (.bool false, .bool false)]) (by kernel_rfl) (by kernel_rfl) ⟨rfl, (bo hd10), ((wr (by omega) (by omega)).trans (io (by omega))), rfl, rfl, (bo hd9), rfl, rfl, (bo hd8), rfl, (bo hd7), rfl, rfl, (bo hd6), ((wr (by omega) (by omega)).trans (io (by omega))), rfl, rfl, (bo hd5), rfl, rfl, trivial⟩ ?_
                          refine run_end (fn := f6) rfl (Nat.le_refl _) (by kernel_rfl) [] [.bool false] (e := []) (by kernel_rfl) trivial (fun w1 k1 h1 => ?_)
                          exfalso
                          omega
                      | true =>
                        have hp9 := of_decide_eq_true hd9
                        refine run_auto [(104, .bool false), (107, .bool false), (111, .bool true), (116, iV (-p.near)), (117, .bool true), (123, .bool true), (125, .bool false), (129, .bool true), (135, .bool true)] 50 [true] [0, 2, 0, 2, 0, 2] [2, 4, 5, 6, 8, 9, 10, 11, 85, 86, 12, 15] [1, 2] (st' := ⟨[(2, pA b1), (4, .bool false), (5, iV (b : Int)), (6, sV rg2 Ls.length rc2), (8, iV fv), (9, iV fe), (10, iV av), (11, iV ae), (85, iV (p.last + 1)), (86, iV (m : Int)), (12, iV (m : Int)), (15, iV jv)], [(rg2, cO ((Ls).flatMap spR ++ rsp2) 23), (b1, aO #[.slice p.ba p.bs.length p.bc, iV p.near, iV p.last, .slice p.ta p.ts.length p.tc] 33)]⟩) (acc := [(.bool true, .bool true), (.bool (decide (p.near < (p.n.out b m).1)), .bool true), (pA b1, pA b1), (pA b3, pA b3), (.bool (jv != 0), .bool true), (.bool false, .bool false), (.bool (decide ((p.n.out b m).2 ≤ p.near)), .bool true), (pA b1, pA b1), (pA b3, pA b3), (.bool (decide ((-p.near) ≤ (p.n.out b m).1)), .bool true), (iV (IntKind.i64.wrap (0 - p.near)), iV (-p.near)), (pA b1, pA b1), (pA b3, pA b3), (.bool (jv == 2), .bool true), (.bool false, .bool false), (.bool false, .bool false)]) (by kernel_rfl) (by kernel_rfl) ⟨rfl, (bo hd9), rfl, rfl, (bo hd8), rfl, (bo hd7), rfl, rfl, (bo hd6), ((wr (by omega) (by omega)).trans (io (by omega))), rfl, rfl, (bo hd5), rfl, rfl, trivial⟩ ?_
                        refine run_end (fn := f6) rfl (Nat.le_refl _) (by kernel_rfl) [] [.bool false] (e := []) (by kernel_rfl) trivial (fun w1 k1 h1 => ?_)
                        exfalso
                        omega
        · skip
          cases hd4 : (fe != 0) with
          | false =>
            have hp4 : fe = 0 := by simpa using hd4
            cases hd5 : (ae != 0) with
            | false =>
              have hp5 : ae = 0 := by simpa using hd5
              refine run_auto [(58, .bool false), (61, .bool false), (73, .bool false)] 29 [false] [] [2, 4, 5, 6, 8, 9, 10, 11] [0, 1] (st' := ⟨[(2, pA b1), (4, .bool false), (5, iV (b : Int)), (6, sV rg2 Ls.length rc2), (8, iV fv), (9, iV fe), (10, iV av), (11, iV ae)], [(rg2, cO ((Ls).flatMap spR ++ rsp2) 23), (b1, aO #[.slice p.ba p.bs.length p.bc, iV p.near, iV p.last, .slice p.ta p.ts.length p.tc] 33)]⟩) (acc := [(.bool false, .bool false), (.bool (ae != 0), .bool false), (.bool (fe != 0), .bool false), (.bool false, .bool false)]) (by kernel_rfl) (by kernel_rfl) ⟨rfl, (bo hd5), (bo hd4), rfl, trivial⟩ ?_
              exact run_eqK (by kernel_rfl) hjoin7
            | true =>
              have hp5 : ¬ ae = 0 := by simpa using hd5
              cases hd6 : (ae != 4) with
              | false =>
                have hp6 : ae = 4 := by simpa using hd6
                cases hd7 : (av != 0) with
                | false =>
                  have hp7 : av = 0 := by simpa using hd7
                  refine run_auto [(58, .bool false), (61, .bool false), (73, .bool true), (76, .bool false), (79, .bool false)] 29 [false] [] [2, 4, 5, 6, 8, 9, 10, 11] [0, 1] (st' := ⟨[(2, pA b1), (4, .bool false), (5, iV (b : Int)), (6, sV rg2 Ls.length rc2), (8, iV fv), (9, iV fe), (10, iV av), (11, iV ae)], [(rg2, cO ((Ls).flatMap spR ++ rsp2) 23), (b1, aO #[.slice p.ba p.bs.length p.bc, iV p.near, iV p.last, .slice p.ta p.ts.length p.tc] 33)]⟩) (acc := [(.bool false, .bool false), (.bool (av != 0), .bool false), (.bool (ae != 4), .bool false), (.bool (ae != 0), .bool true), (.bool (fe != 0), .bool false), (.bool false, .bool false)]) (by kernel_rfl) (by kernel_rfl) ⟨rfl, (bo hd7), (bo hd6), (bo hd5), (bo hd4), rfl, trivial⟩ ?_
                  exact run_eqK (by kernel_rfl) hjoin7
                | true =>
                  have hp7 : ¬ av = 0 := by simpa using hd7
                  refine run_auto [(58, .bool false), (61, .bool false), (73, .bool true), (76, .bool false), (79, .bool true)] 33 [true] [] [2, 4, 5, 6, 8, 9, 10, 11] [0, 1] (st' := ⟨[(2, pA b1), (4, .bool false), (5, iV (b : Int)), (6, sV rg2 Ls.length rc2), (8, iV fv), (9, iV fe), (10, iV av), (11, iV ae)], [(rg2, cO ((Ls).flatMap spR ++ rsp2) 23), (b1, aO #[.slice p.ba p.bs.length p.bc, iV p.near, iV p.last, .slice p.ta p.ts.length p.tc] 33)]⟩) (acc := [(.bool true, .bool true), (.bool (av != 0), .bool true), (.bool (ae != 4), .bool false), (.bool (ae != 0), .bool true), (.bool (fe != 0), .bool false), (.bool false, .bool false)]) (by kernel_rfl) (by kernel_rfl) ⟨rfl, (bo hd7), (bo hd6), (bo hd5), (bo hd4), rfl, trivial⟩ ?_
                  refine run_end (fn := f6) rfl (Nat.le_refl _) (by kernel_rfl) [] [.bool false] (e := []) (by kernel_rfl) trivial (fun w1 k1 h1 => ?_)
                  exfalso
                  omega
              | true =>
                have hp6 : ¬ ae = 4 := by simpa using hd6
                refine run_auto [(58, .bool false), (61, .bool false), (73, .bool true), (76, .bool true)] 33 [true] [] [2, 4, 5, 6, 8, 9, 10, 11] [0, 1] (st' := ⟨[(2, pA b1), (4, .bool false), (5, iV (b : Int)), (6, sV rg2 Ls.length rc2), (8, iV fv), (9, iV fe), (10, iV av), (11, iV ae)], [(rg2, cO ((Ls).flatMap spR ++ rsp2) 23), (b1, aO #[.slice p.ba p.bs.length p.bc, iV p.near, iV p.last, .slice p.ta p.ts.length p.tc] 33)]⟩) (acc := [(.bool true, .bool true), (.bool (ae != 4), .bool true), (.bool (ae != 0), .bool true), (.bool (fe != 0), .bool false), (.bool false, .bool false)]) (by kernel_rfl) (by kernel_rfl) ⟨rfl, (bo hd6), (bo hd5), (bo hd4), rfl, trivial⟩ ?_
                refine run_end (fn := f6) rfl (Nat.le_refl _) (by kernel_rfl) [] [.bool false] (e := []) (by kernel_rfl) trivial (fun w1 k1 h1 => ?_)
                exfalso
                omega
          | true =>
            have hp4 : ¬ fe = 0 := by simpa using hd4
            cases hd5 : (fe != 4) with
            | false =>
              have hp5 : fe = 4 := by simpa using hd5
              cases hd6 : (fv != 0) with
              | false =>
                have hp6 : fv = 0 := by simpa using hd6
                cases hd7 : (ae != 0) with
                | false =>
                  have hp7 : ae = 0 := by simpa using hd7
                  refine run_auto [(58, .bool false), (61, .bool true), (64, .bool false), (67, .bool false), (73, .bool false)] 29 [false] [] [2, 4, 5, 6, 8, 9, 10, 11] [0, 1] (st' := ⟨[(2, pA b1), (4, .bool false), (5, iV (b : Int)), (6, sV rg2 Ls.length rc2), (8, iV fv), (9, iV fe), (10, iV av), (11, iV ae)], [(rg2, cO ((Ls).flatMap spR ++ rsp2) 23), (b1, aO #[.slice p.ba p.bs.length p.bc, iV p.near, iV p.last, .slice p.ta p.ts.length p.tc] 33)]⟩) (acc := [(.bool false, .bool false), (.bool (ae != 0), .bool false), (.bool (fv != 0), .bool false), (.bool (fe != 4), .bool false), (.bool (fe != 0), .bool true), (.bool false, .bool false)]) (by kernel_rfl) (by kernel_rfl) ⟨rfl, (bo hd7), (bo hd6), (bo hd5), (bo hd4), rfl, trivial⟩ ?_
                  exact run_eqK (by kernel_rfl) hjoin7
                | true =>
                  have hp7 : ¬ ae = 0 := by simpa using hd7
                  cases hd8 : (ae != 4) with
                  | false =>
                    have hp8 : ae = 4 := by simpa using hd8
                    cases hd9 : (av != 0) with
                    | false =>
                      have hp9 : av = 0 := by simpa using hd9
                      refine run_auto [(58, .bool false), (61, .bool true), (64, .bool false), (67, .bool false), (73, .bool true), (76, .bool false), (79, .bool false)] 29 [false] [] [2, 4, 5, 6, 8, 9, 10, 11] [0, 1] (st' := ⟨[(2, pA b1), (4, .bool false), (5, iV (b : Int)), (6, sV rg2 Ls.length rc2), (8, iV fv), (9, iV fe), (10, iV av), (11, iV ae)], [(rg2, cO ((Ls).flatMap spR ++ rsp2) 23), (b1, aO #[.slice p.ba p.bs.length p.bc, iV p.near, iV p.last, .slice p.ta p.ts.length p.tc] 33)]⟩) (acc := [(.bool false, .bool false), (.bool (av != 0), .bool false), (.bool (ae != 4), .bool false), (.bool (ae != 0), .bool true), (.bool (fv != 0), .bool false), (.bool (fe != 4), .bool false), (.bool (fe != 0), .bool true), (.bool false, .bool false)]) (by kernel_rfl) (by kernel_rfl) ⟨rfl, (bo hd9), (bo hd8), (bo hd7), (bo hd6), (bo hd5), (bo hd4), rfl, trivial⟩ ?_
                      exact run_eqK (by kernel_rfl) hjoin7
                    | true =>
                      have hp9 : ¬ av = 0 := by simpa using hd9
                      refine run_auto [(58, .bool false), (61, .bool true), (64, .bool false), (67, .bool false), (73, .bool true), (76, .bool false), (79, .bool true)] 33 [true] [] [2, 4, 5, 6, 8, 9, 10, 11] [0, 1] (st' := ⟨[(2, pA b1), (4, .bool false), (5, iV (b : Int)), (6, sV rg2 Ls.length rc2), (8, iV fv), (9, iV fe), (10, iV av), (11, iV ae)], [(rg2, cO ((Ls).flatMap spR ++ rsp2) 23), (b1, aO #[.slice p.ba p.bs.length p.bc, iV p.near, iV p.last, .slice p.ta p.ts.length p.tc] 33)]⟩) (acc := [(.bool true, .bool true), (.bool (av != 0), .bool true), (.bool (ae != 4), .bool false), (.bool (ae != 0), .bool true), (.bool (fv != 0), .bool false), (.bool (fe != 4), .bool false), (.bool (fe != 0), .bool true), (.bool false, .bool false)]) (by kernel_rfl) (by kernel_rfl) ⟨rfl, (bo hd9), (bo hd8), (bo hd7), (bo hd6), (bo hd5), (bo hd4), rfl, trivial⟩ ?_
                      refine run_end (fn := f6) rfl (Nat.le_refl _) (by kernel_rfl) [] [.bool false] (e := []) (by kernel_rfl) trivial (fun w1 k1 h1 => ?_)
                      exfalso
                      omega
                  | true =>
                    have hp8 : ¬ ae = 4 := by simpa using hd8
                    refine run_auto [(58, .bool false), (61, .bool true), (64, .bool false), (67, .bool false), (73, .bool true), (76, .bool true)] 33 [true] [] [2, 4, 5, 6, 8, 9, 10, 11] [0, 1] (st' := ⟨[(2, pA b1), (4, .bool false), (5, iV (b : Int)), (6, sV rg2 Ls.length rc2), (8, iV fv), (9, iV fe), (10, iV av), (11, iV ae)], [(rg2, cO ((Ls).flatMap spR ++ rsp2) 23), (b1, aO #[.slice p.ba p.bs.length p.bc, iV p.near, iV p.last, .slice p.ta p.ts.length p.tc] 33)]⟩) (acc := [(.bool true, .bool true), (.bool (ae != 4), .bool true), (.bool (ae != 0), .bool true), (.bool (fv != 0), .bool false), (.bool (fe != 4), .bool false), (.bool (fe != 0), .bool true), (.bool false, .bool false)]) (by kernel_rfl) (by kernel_rfl) ⟨rfl, (bo hd8), (bo hd7), (bo hd6), (bo hd5), (bo hd4), rfl, trivial⟩ ?_
                    refine run_end (fn := f6) rfl (Nat.le_refl _) (by kernel_rfl) [] [.bool false] (e := []) (by kernel_rfl) trivial (fun w1 k1 h1 => ?_)
                    exfalso
                    omega
              | true =>
                have hp6 : ¬ fv = 0 := by simpa using hd6
                refine run_auto [(58, .bool false), (61, .bool true), (64, .bool false), (67, .bool true)] 33 [true] [] [2, 4, 5, 6, 8, 9, 10, 11] [0, 1] (st' := ⟨[(2, pA b1), (4, .bool false), (5, iV (b : Int)), (6, sV rg2 Ls.length rc2), (8, iV fv), (9, iV fe), (10, iV av), (11, iV ae)], [(rg2, cO ((Ls).flatMap spR ++ rsp2) 23), (b1, aO #[.slice p.ba p.bs.length p.bc, iV p.near, iV p.last, .slice p.ta p.ts.length p.tc] 33)]⟩) (acc := [(.bool true, .bool true), (.bool (fv != 0), .bool true), (.bool (fe != 4), .bool false), (.bool (fe != 0), .bool true), (.bool false, .bool false)]) (by kernel_rfl) (by kernel_rfl) ⟨rfl, (bo hd6), (bo hd5), (bo hd4), rfl, trivial⟩ ?_
                refine run_end (fn := f6) rfl (Nat.le_refl _) (by kernel_rfl) [] [.bool false] (e := []) (by kernel_rfl) trivial (fun w1 k1 h1 => ?_)
                exfalso
                omega
            | true =>
              have hp5 : ¬ fe = 4 := by simpa using hd5
              refine run_auto [(58, .bool false), (61, .bool true), (64, .bool true)] 33 [true] [] [2, 4, 5, 6, 8, 9, 10, 11] [0, 1] (st' := ⟨[(2, pA b1), (4, .bool false), (5, iV (b : Int)), (6, sV rg2 Ls.length rc2), (8, iV fv), (9, iV fe), (10, iV av), (11, iV ae)], [(rg2, cO ((Ls).flatMap spR ++ rsp2) 23), (b1, aO #[.slice p.ba p.bs.length p.bc, iV p.near, iV p.last, .slice p.ta p.ts.length p.tc] 33)]⟩) (acc := [(.bool true, .bool true), (.bool (fe != 4), .bool true), (.bool (fe != 0), .bool true), (.bool false, .bool false)]) (by kernel_rfl) (by kernel_rfl) ⟨rfl, (bo hd5), (bo hd4), rfl, trivial⟩ ?_
              refine run_end (fn := f6) rfl (Nat.le_refl _) (by kernel_rfl) [] [.bool false] (e := []) (by kernel_rfl) trivial (fun w1 k1 h1 => ?_)
              exfalso
              omega
      | true =>
        have hL0 : Ls = [] := List.isEmpty_iff.1 hd3
        have hlast := nil_is hWh hRs hL0
        have hLz : Ls.length = 0 := by rw [hL0]; rfl
        refine run_ret1 16 #[.agg #[.slice p.ba p.bs.length p.bc, iV p.near, iV p.last, .slice p.ta p.ts.length p.tc], iV (b : Int)] (some 43) (.tuple #[.slice none 0 0, iV 0]) (by kernel_rfl) (fun w1 k1 h1 => ((show Calls Try.prog 16 #[.agg #[.slice p.ba p.bs.length p.bc, iV p.near, iV p.last, .slice p.ta p.ts.length p.tc], iV (b : Int)] w1 (SlR (.inr Ls) w1) from by have h := Rests_any p (b : Int) w1 (hp.keep (k1.keeps (fun _ h => h))); rw [show restR p.n (b : Int) = .inr Ls from (rest_is hok hbl).trans (congrArg _ hLs)] at h; exact h).mono fun _ _ hh => hh.elim (fun hh => hh.2) (fun hh => absurd (show Ls.isEmpty = false from hh.1) (by rw [hd3]; simp)))) ?_
        refine run_auto [] 10 [] [0] [2, 4, 5, 6, 7, 47, 48] [0] (st' := ⟨[(2, pA b1), (4, .bool false), (5, iV (b : Int)), (6, .slice none 0 0), (7, iV 0), (47, .agg #[.slice p.ba p.bs.length p.bc, iV p.near, iV p.last, .slice p.ta p.ts.length p.tc]), (48, iV (b : Int))], [(b1, aO #[.slice p.ba p.bs.length p.bc, iV p.near, iV p.last, .slice p.ta p.ts.length p.tc] 33)]⟩) (acc := [(pA b1, pA b1)]) (by kernel_rfl) (by kernel_rfl) ⟨rfl, trivial⟩ ?_
        refine run_ret1 15 #[.agg #[.slice p.ba p.bs.length p.bc, iV p.near, iV p.last, .slice p.ta p.ts.length p.tc], iV (b : Int)] (some 49) (.tuple #[iV fv, iV fe]) (by kernel_rfl) (fun w1 k1 h1 => (by have h := When_any p (b : Int) w1 (hp.keep (k1.keeps (fun _ h => h))); rw [hfv, hfe] at h; exact h)) ?_
        refine run_auto [] 9 [] [0] [2, 4, 5, 6, 7, 8, 9, 53] [0] (st' := ⟨[(2, pA b1), (4, .bool false), (5, iV (b : Int)), (6, .slice none 0 0), (7, iV 0), (8, iV fv), (9, iV fe), (53, .agg #[.slice p.ba p.bs.length p.bc, iV p.near, iV p.last, .slice p.ta p.ts.length p.tc])], [(b1, aO #[.slice p.ba p.bs.length p.bc, iV p.near, iV p.last, .slice p.ta p.ts.length p.tc] 33)]⟩) (acc := [(pA b1, pA b1)]) (by kernel_rfl) (by kernel_rfl) ⟨rfl, trivial⟩ ?_
        refine run_ret1 24 #[.agg #[.slice p.ba p.bs.length p.bc, iV p.near, iV p.last, .slice p.ta p.ts.length p.tc]] (some 54) (.tuple #[iV av, iV ae]) (by kernel_rfl) (fun w1 k1 h1 => (by have h := All_any p w1 (hp.keep (k1.keeps (fun _ h => h))); rw [hav, hae] at h; exact h)) ?_
        refine run_auto [] 8 [] [] [2, 4, 5, 6, 7, 8, 9, 10, 11] [0] (st' := ⟨[(2, pA b1), (4, .bool false), (5, iV (b : Int)), (6, .slice none 0 0), (7, iV 0), (8, iV fv), (9, iV fe), (10, iV av), (11, iV ae)], [(b1, aO #[.slice p.ba p.bs.length p.bc, iV p.near, iV p.last, .slice p.ta p.ts.length p.tc] 33)]⟩) (acc := []) (by kernel_rfl) (by kernel_rfl) trivial ?_
        refine run_join (fun k => adv 29 [false] k) ⟨[(2, pA b1), (4, .bool false), (5, iV (b : Int)), (6, .slice none 0 0), (8, iV fv), (9, iV fe), (10, iV av), (11, iV ae)], [(b1, aO #[.slice p.ba p.bs.length p.bc, iV p.near, iV p.last, .slice p.ta p.ts.length p.tc] 33)]⟩ ?_ (fun hjoin7 => ?_)
        · skip
          refine run_auto [(85, iV (p.last + 1))] 10 [] [0] [2, 4, 5, 6, 8, 9, 10, 11, 85, 86] [0] (st' := ⟨[(2, pA b1), (4, .bool false), (5, iV (b : Int)), (6, .slice none 0 0), (8, iV fv), (9, iV fe), (10, iV av), (11, iV ae), (85, iV (p.last + 1)), (86, iV 0)], [(b1, aO #[.slice p.ba p.bs.length p.bc, iV p.near, iV p.last, .slice p.ta p.ts.length p.tc] 33)]⟩) (acc := [(iV (IntKind.i64.wrap (p.last + 1)), iV (p.last + 1)), (pA b1, pA b1)]) (by kernel_rfl) (by kernel_rfl) ⟨(wr (by omega) (by omega)), rfl, trivial⟩ ?_
          refine run_auto [] 0 [] [] [2, 4, 5, 6, 8, 9, 10, 11, 85, 86] [0] (st' := ⟨[(2, pA b1), (4, .bool false), (5, iV (b : Int)), (6, .slice none 0 0), (8, iV fv), (9, iV fe), (10, iV av), (11, iV ae), (85, iV (p.last + 1)), (86, iV 0)], [(b1, aO #[.slice p.ba p.bs.length p.bc, iV p.near, iV p.last, .slice p.ta p.ts.length p.tc] 33)]⟩) (acc := []) (by kernel_rfl) (by kernel_rfl) trivial ?_
          refine run_loop (S := fun (m : Nat) => ⟨[(2, pA b1), (4, .bool false), (5, iV (b : Int)), (6, .slice none 0 0), (8, iV fv), (9, iV fe), (10, iV av), (11, iV ae), (85, iV (p.last + 1)), (86, iV (m : Int))], [(b1, aO #[.slice p.ba p.bs.length p.bc, iV p.near, iV p.last, .slice p.ta p.ts.length p.tc] 33)]⟩) (fun m => m ≤ p.n.N + 1) (fun m => p.n.N + 1 - m) (0) (by kernel_rfl) (Nat.zero_le _) (by kernel_rfl) (fun m hI0 J0 hJ0 => ?_)
          have hmN := hI0
          cases hd4 : (decide ((m : Int) < (p.last + 1))) with
          | false =>
            have hp4 := of_decide_eq_false hd4
            refine run_auto [(87, .bool false), (200, iV (-1))] 16 [false] [] [2, 4, 6, 8, 9, 10, 11, 20] [0] (st' := ⟨[(2, pA b1), (4, .bool false), (6, .slice none 0 0), (8, iV fv), (9, iV fe), (10, iV av), (11, iV ae), (20, iV (-1))], [(b1, aO #[.slice p.ba p.bs.length p.bc, iV p.near, iV p.last, .slice p.ta p.ts.length p.tc] 33)]⟩) (acc := [(iV (-1), iV (-1)), (.bool false, .bool false), (.bool (decide ((m : Int) < (p.last + 1))), .bool false)]) (by kernel_rfl) (by kernel_rfl) ⟨rfl, rfl, (bo hd4), trivial⟩ ?_
            cases hd5 : (fe == 0) with
            | false =>
              have hp5 : ¬ fe = 0 := by simpa using hd5
              refine drawW 28 [{ val := fun _ => iV fe, slots := [9] },
                              { val := fun _ => .bool false, slots := [201] },
                              { val := fun _ => iV (-1), slots := [20] },
                              { val := fun _ => .bool false, slots := [203] },
                              { val := fun _ => .bool false, slots := [204] },
                              { slots := [205] },
                              { slots := [205] },
                              { slots := [205] },
                              { slots := [205] },
                              { slots := [205] },
                              { slots := [205] },
                              { slots := [205] },
                              { slots := [205] },
                              { val := fun _ => .bool false, slots := [205, 213] },
                              { val := fun _ => .bool false, slots := [202, 214] },
                              { val := fun _ => .bool false, slots := [215] },
                              { val := fun _ => iV fe, slots := [9, 216] },
                              { val := fun _ => .bool false, slots := [216, 217] },
                              { val := fun _ => .bool false, slots := [216, 218] },
                              { slots := [219] },
                              { slots := [219] },
                              { slots := [219] },
                              { slots := [219] },
                              { slots := [219] },
                              { slots := [219] },
                              { slots := [219] },
                              { val := fun _ => .bool false, slots := [216, 219, 226] },
                              { val := fun _ => .bool false, slots := [216, 227] }] [[], [0], [], [2], [2, 3], [2, 3, 4], [2, 3, 4], [2, 3, 4, 5, 6], [2, 3, 4, 5, 6, 7], [2, 3, 4, 5, 6, 7, 8], [2, 3, 4], [2, 3, 4, 10], [2, 3, 4, 5, 6, 7, 8, 9, 10, 11], [2, 3, 4, 5, 6, 7, 8, 9, 10, 11, 12], [0, 1, 2, 3, 4, 5, 6, 7, 8, 9, 10, 11, 12, 13], [0, 1, 2, 3, 4, 5, 6, 7, 8, 9, 10, 11, 12, 13, 14], [0, 1, 2, 3, 4, 5, 6, 7, 8, 9, 10, 11, 12, 13, 14, 15], [0, 1, 2, 3, 4, 5, 6, 7, 8, 9, 10, 11, 12, 13, 14, 15, 16], [0, 1, 2, 3, 4, 5, 6, 7, 8, 9, 10, 11, 12, 13, 14, 15, 16, 17], [0, 1, 2, 3, 4, 5, 6, 7, 8, 9, 10, 11, 12, 13, 14, 15, 16, 17, 18], [0, 1, 2, 3, 4, 5, 6, 7, 8, 9, 10, 11, 12, 13, 14, 15, 16, 17, 18], [0, 1, 2, 3, 4, 5, 6, 7, 8, 9, 10, 11, 12, 13, 14, 15, 16, 17, 18, 19, 20], [0, 1, 2, 3, 4, 5, 6, 7, 8, 9, 10, 11, 12, 13, 14, 15, 16, 17, 18, 19, 20, 21], [0, 1, 2, 3, 4, 5, 6, 7, 8, 9, 10, 11, 12, 13, 14, 15, 16, 17, 18, 19, 20, 21, 22], [0, 1, 2, 3, 4, 5, 6, 7, 8, 9, 10, 11, 12, 13, 14, 15, 16, 17, 18], [0, 1, 2, 3, 4, 5, 6, 7, 8, 9, 10, 11, 12, 13, 14, 15, 16, 17, 18, 19, 20, 21, 22, 23, 24], [0, 1, 2, 3, 4, 5, 6, 7, 8, 9, 10, 11, 12, 13, 14, 15, 16, 17, 18, 19, 20, 21, 22, 23, 24, 25], [0, 1, 2, 3, 4, 5, 6, 7, 8, 9, 10, 11, 12, 13, 14, 15, 16, 17, 18, 19, 20, 21, 22, 23, 24, 25, 26]] (by kernel_rfl) (by kernel_rfl) (by kernel_rfl) (by kernel_rfl) [2, 4, 10, 11, 228] [0] (by kernel_rfl)
                              ⟨⟨⟨⟨⟨⟨⟨⟨⟨⟨⟨⟨⟨⟨⟨⟨⟨⟨⟨⟨⟨⟨⟨⟨⟨⟨⟨⟨trivial,
                              tri_quietW (fun β => []) [] [] (fun β => []) (by kernel_rfl) (fun β extra => by kernel_rfl) (by kernel_rfl) (fun β => trivial)⟩,
                              tri_quietW (fun β => [(202, .bool false)]) [] [] (fun β => [(.bool (fe == 0), .bool false)]) (by kernel_rfl) (fun β extra => by kernel_rfl) (by kernel_rfl) (fun β => ⟨(bo hd5), trivial⟩)⟩,
                              tri_quietW (fun β => []) [] [] (fun β => []) (by kernel_rfl) (fun β extra => by kernel_rfl) (by kernel_rfl) (fun β => trivial)⟩,
                              tri_quietW (fun β => [(204, .bool false)]) [] [] (fun β => [(.bool false, .bool false)]) (by kernel_rfl) (fun β extra => by kernel_rfl) (by kernel_rfl) (fun β => ⟨rfl, trivial⟩)⟩,
                              tri_quietW (fun β => []) [] [] (fun β => []) (by kernel_rfl) (fun β extra => by kernel_rfl) (by kernel_rfl) (fun β => trivial)⟩,
                              tri_quietW (fun β => []) [] [] (fun β => []) (by kernel_rfl) (fun β extra => by kernel_rfl) (by kernel_rfl) (fun β => trivial)⟩,
                              tri_quietW (fun β => []) [] [] (fun β => []) (by kernel_rfl) (fun β extra => by kernel_rfl) (by kernel_rfl) (fun β => trivial)⟩,
                              tri_quietW (fun β => []) [] [] (fun β => []) (by kernel_rfl) (fun β extra => by kernel_rfl) (by kernel_rfl) (fun β => trivial)⟩,
                              tri_quietW (fun β => []) [] [] (fun β => []) (by kernel_rfl) (fun β extra => by kernel_rfl) (by kernel_rfl) (fun β => trivial)⟩,
                              tri_quietW (fun β => []) [] [] (fun β => []) (by kernel_rfl) (fun β extra => by kernel_rfl) (by kernel_rfl) (fun β => trivial)⟩,
                              tri_quietW (fun β => []) [] [] (fun β => []) (by kernel_rfl) (fun β extra => by kernel_rfl) (by kernel_rfl) (fun β => trivial)⟩,
                              tri_quietW (fun β => []) [] [] (fun β => []) (by kernel_rfl) (fun β extra => by kernel_rfl) (by kernel_rfl) (fun β => trivial)⟩,
                              tri_quietW (fun β => []) [] [] (fun β => []) (by kernel_rfl) (fun β extra => by kernel_rfl) (by kernel_rfl) (fun β => trivial)⟩,
                              tri_quietW (fun β => []) [] [] (fun β => []) (by kernel_rfl) (fun β extra => by kernel_rfl) (by kernel_rfl) (fun β => trivial)⟩,
                              tri_quietW (fun β => [(215, .bool false)]) [] [] (fun β => [(.bool false, .bool false)]) (by kernel_rfl) (fun β extra => by kernel_rfl) (by kernel_rfl) (fun β => ⟨rfl, trivial⟩)⟩,
                              tri_quietW (fun β => []) [] [] (fun β => []) (by kernel_rfl) (fun β extra => by kernel_rfl) (by kernel_rfl) (fun β => trivial)⟩,
                              tri_quietW (fun β => []) [] [] (fun β => []) (by kernel_rfl) (fun β extra => by kernel_rfl) (by kernel_rfl) (fun β => trivial)⟩,
                              tri_quietW (fun β => [(218, .bool false)]) [] [] (fun β => [(.bool (fe == 0), .bool false)]) (by kernel_rfl) (fun β extra => by kernel_rfl) (by kernel_rfl) (fun β => ⟨(bo hd5), trivial⟩)⟩,
                              tri_quietW (fun β => []) [] [] (fun β => []) (by kernel_rfl) (fun β extra => by kernel_rfl) (by kernel_rfl) (fun β => trivial)⟩,
                              tri_quietW (fun β => []) [] [] (fun β => []) (by kernel_rfl) (fun β extra => by kernel_rfl) (by kernel_rfl) (fun β => trivial)⟩,
                              tri_quietW (fun β => []) [] [] (fun β => []) (by kernel_rfl) (fun β extra => by kernel_rfl) (by kernel_rfl) (fun β => trivial)⟩,
                              tri_quietW (fun β => []) [] [] (fun β => []) (by kernel_rfl) (fun β extra => by kernel_rfl) (by kernel_rfl) (fun β => trivial)⟩,
                              tri_quietW (fun β => []) [] [] (fun β => []) (by kernel_rfl) (fun β extra => by kernel_rfl) (by kernel_rfl) (fun β => trivial)⟩,
                              tri_quietW (fun β => []) [] [] (fun β => []) (by kernel_rfl) (fun β extra => by kernel_rfl) (by kernel_rfl) (fun β => trivial)⟩,
                              tri_quietW (fun β => []) [] [] (fun β => []) (by kernel_rfl) (fun β extra => by kernel_rfl) (by kernel_rfl) (fun β => trivial)⟩,
                              tri_quietW (fun β => []) [] [] (fun β => []) (by kernel_rfl) (fun β extra => by kernel_rfl) (by kernel_rfl) (fun β => trivial)⟩,
                              tri_quietW (fun β => []) [] [] (fun β => []) (by kernel_rfl) (fun β extra => by kernel_rfl) (by kernel_rfl) (fun β => trivial)⟩,
                              tri_quietW (fun β => []) [] [] (fun β => []) (by kernel_rfl) (fun β extra => by kernel_rfl) (by kernel_rfl) (fun β => trivial)⟩
                              (fun β => ⟨[(2, pA b1), (4, .bool false), (10, iV av), (11, iV ae), (228, .bool false)], [(b1, aO #[.slice p.ba p.bs.length p.bc, iV p.near, iV p.last, .slice p.ta p.ts.length p.tc] 33)]⟩) (fun β => by kernel_rfl) (fun β2 => ?_)
              refine run_auto [] 3 [false] [] [2, 10, 11] [0] (st' := ⟨[(2, pA b1), (10, iV av), (11, iV ae)], [(b1, aO #[.slice p.ba p.bs.length p.bc, iV p.near, iV p.last, .slice p.ta p.ts.length p.tc] 33)]⟩) (acc := [(.bool false, .bool false)]) (by kernel_rfl) (by kernel_rfl) ⟨rfl, trivial⟩ ?_
              exact run_eqK (by kernel_rfl) (rests30 p b1 av ae w hp hok hav hae)
            | true =>
              have hp5 : fe = 0 := by simpa using hd5
              exfalso
              omega
          | true =>
            have hp4 := of_decide_eq_true hd4
            have hm60 : m ≤ 60 := by omega
            obtain ⟨jv, hjv⟩ : ∃ x, p.n.judge b m = x := ⟨_, rfl⟩
            obtain ⟨hj1, hj2, hj3⟩ := jo_is hF hbl (m := m) (by omega) hjv
            have hob := out_bd hF hbl (m := m) (by omega)
            have hnn : p.n.near = p.near := rfl
            rw [hnn] at hj1 hj2
            have hasn := any_is hRs (m := m) (by omega)
            refine run_auto [(87, .bool true)] 19 [true] [0] [2, 4, 5, 6, 8, 9, 10, 11, 85, 86, 12, 90, 91, 92] [0] (st' := ⟨[(2, pA b1), (4, .bool false), (5, iV (b : Int)), (6, .slice none 0 0), (8, iV fv), (9, iV fe), (10, iV av), (11, iV ae), (85, iV (p.last + 1)), (86, iV (m : Int)), (12, iV (m : Int)), (90, .agg #[.slice p.ba p.bs.length p.bc, iV p.near, iV p.last, .slice p.ta p.ts.length p.tc]), (91, iV (b : Int)), (92, iV (m : Int))], [(b1, aO #[.slice p.ba p.bs.length p.bc, iV p.near, iV p.last, .slice p.ta p.ts.length p.tc] 33)]⟩) (acc := [(pA b1, pA b1), (.bool true, .bool true), (.bool (decide ((m : Int) < (p.last + 1))), .bool true)]) (by kernel_rfl) (by kernel_rfl) ⟨rfl, rfl, (bo hd4), trivial⟩ ?_
            refine run_ret1 11 #[.agg #[.slice p.ba p.bs.length p.bc, iV p.near, iV p.last, .slice p.ta p.ts.length p.tc], iV (b : Int), iV (m : Int)] (some 93) (.tuple #[.agg #[iV (p.n.out b m).1, iV (p.n.out b m).2], iV 0]) (by kernel_rfl) (fun w1 k1 h1 => (by have h := Excess_any p (b : Int) (m : Int) w1 (hp.keep (k1.keeps (fun _ h => h))); rw [show excR p.n (b : Int) (m : Int) = .inr (p.n.out b m) from exc_is hok hbl (by show (m : Int) ≤ p.last; omega)] at h; exact h)) ?_
            refine run_auto [] 3 [] [] [2, 4, 5, 6, 8, 9, 10, 11, 85, 86, 12, 94, 95] [0] (st' := ⟨[(2, pA b1), (4, .bool false), (5, iV (b : Int)), (6, .slice none 0 0), (8, iV fv), (9, iV fe), (10, iV av), (11, iV ae), (85, iV (p.last + 1)), (86, iV (m : Int)), (12, iV (m : Int)), (94, .agg #[iV (p.n.out b m).1, iV (p.n.out b m).2]), (95, iV 0)], [(b1, aO #[.slice p.ba p.bs.length p.bc, iV p.near, iV p.last, .slice p.ta p.ts.length p.tc] 33)]⟩) (acc := []) (by kernel_rfl) (by kernel_rfl) trivial ?_
            refine run_new (aO #[iV 0, iV 0] 23) (fun b2 => pA b2) (some 13) (fun _ => by kernel_rfl) (fun b2 hb2 => ?_)
            refine run_auto [] 8 [] [0, 1] [2, 4, 5, 6, 8, 9, 10, 11, 85, 86, 12, 13, 14, 97, 98, 99] [0, 1] (st' := ⟨[(2, pA b1), (4, .bool false), (5, iV (b : Int)), (6, .slice none 0 0), (8, iV fv), (9, iV fe), (10, iV av), (11, iV ae), (85, iV (p.last + 1)), (86, iV (m : Int)), (12, iV (m : Int)), (13, pA b2), (14, iV 0), (97, .agg #[.slice p.ba p.bs.length p.bc, iV p.near, iV p.last, .slice p.ta p.ts.length p.tc]), (98, iV (b : Int)), (99, iV (m : Int))], [(b2, aO #[iV (p.n.out b m).1, iV (p.n.out b m).2] 23), (b1, aO #[.slice p.ba p.bs.length p.bc, iV p.near, iV p.last, .slice p.ta p.ts.length p.tc] 33)]⟩) (acc := [(pA b1, pA b1), (pA b2, pA b2)]) (by kernel_rfl) (by kernel_rfl) ⟨rfl, rfl, trivial⟩ ?_
            refine run_ret1 14 #[.agg #[.slice p.ba p.bs.length p.bc, iV p.near, iV p.last, .slice p.ta p.ts.length p.tc], iV (b : Int), iV (m : Int)] (some 100) (.tuple #[iV jv, iV 0]) (by kernel_rfl) (fun w1 k1 h1 => (by have h := Settled_any p (b : Int) (m : Int) w1 (hp.keep (k1.keeps (fun _ h => h))); rw [show setR p.n (b : Int) (m : Int) = .inr jv from (set_is hok hbl (by show (m : Int) ≤ p.last; omega)).trans (congrArg _ hjv)] at h; exact h)) ?_
            refine run_auto [] 8 [] [] [2, 4, 5, 6, 8, 9, 10, 11, 85, 86, 12, 13, 14, 15, 16] [0, 1] (st' := ⟨[(2, pA b1), (4, .bool false), (5, iV (b : Int)), (6, .slice none 0 0), (8, iV fv), (9, iV fe), (10, iV av), (11, iV ae), (85, iV (p.last + 1)), (86, iV (m : Int)), (12, iV (m : Int)), (13, pA b2), (14, iV 0), (15, iV jv), (16, iV 0)], [(b2, aO #[iV (p.n.out b m).1, iV (p.n.out b m).2] 23), (b1, aO #[.slice p.ba p.bs.length p.bc, iV p.near, iV p.last, .slice p.ta p.ts.length p.tc] 33)]⟩) (acc := []) (by kernel_rfl) (by kernel_rfl) trivial ?_
            refine run_join (fun k => adv 46 [false] k) ⟨[(2, pA b1), (4, .bool false), (5, iV (b : Int)), (6, .slice none 0 0), (8, iV fv), (9, iV fe), (10, iV av), (11, iV ae), (85, iV (p.last + 1)), (86, iV (m : Int)), (12, iV (m : Int)), (15, iV jv)], [(b1, aO #[.slice p.ba p.bs.length p.bc, iV p.near, iV p.last, .slice p.ta p.ts.length p.tc] 33)]⟩ ?_ (fun hjoin14 => ?_)
            · skip
              refine run_auto [] 13 [] [] [2, 4, 5, 6, 8, 9, 10, 11, 85, 86, 12, 15, 17, 146, 147, 148] [0] (st' := ⟨[(2, pA b1), (4, .bool false), (5, iV (b : Int)), (6, .slice none 0 0), (8, iV fv), (9, iV fe), (10, iV av), (11, iV ae), (85, iV (p.last + 1)), (86, iV (m : Int)), (12, iV (m : Int)), (15, iV jv), (17, .bool false), (146, .slice none 0 0), (147, iV 0), (148, iV 0)], [(b1, aO #[.slice p.ba p.bs.length p.bc, iV p.near, iV p.last, .slice p.ta p.ts.length p.tc] 33)]⟩) (acc := []) (by kernel_rfl) (by kernel_rfl) trivial ?_
              refine run_auto [] 0 [] [] [2, 4, 5, 6, 8, 9, 10, 11, 85, 86, 12, 15, 17, 146, 147, 148] [0] (st' := ⟨[(2, pA b1), (4, .bool false), (5, iV (b : Int)), (6, .slice none 0 0), (8, iV fv), (9, iV fe), (10, iV av), (11, iV ae), (85, iV (p.last + 1)), (86, iV (m : Int)), (12, iV (m : Int)), (15, iV jv), (17, .bool false), (146, .slice none 0 0), (147, iV 0), (148, iV 0)], [(b1, aO #[.slice p.ba p.bs.length p.bc, iV p.near, iV p.last, .slice p.ta p.ts.length p.tc] 33)]⟩) (acc := []) (by kernel_rfl) (by kernel_rfl) trivial ?_
              refine run_loop (S := fun (v : Nat × Bool) => ⟨[(2, pA b1), (4, .bool false), (5, iV (b : Int)), (6, .slice none 0 0), (8, iV fv), (9, iV fe), (10, iV av), (11, iV ae), (85, iV (p.last + 1)), (86, iV (m : Int)), (12, iV (m : Int)), (15, iV jv), (17, .bool (bq v.2)), (146, .slice none 0 0), (147, iV 0), (148, iV (v.1 : Int))], [(b1, aO #[.slice p.ba p.bs.length p.bc, iV p.near, iV p.last, .slice p.ta p.ts.length p.tc] 33)]⟩) (fun v => v.1 ≤ Ls.length ∧ bq v.2 = inAny Ls (m : Int) v.1) (fun v => Ls.length - v.1) ((0, false)) (by kernel_rfl) (⟨Nat.zero_le _, rfl⟩) (by kernel_rfl) (fun v hI1 J1 hJ1 => ?_)
              obtain ⟨j, rs⟩ := v
              obtain ⟨hA1, hA2⟩ := hI1
              dsimp only at hA1 hA2
              cases hd5 : (decide ((j : Int) < 0)) with
              | false =>
                have hp5 := of_decide_eq_false hd5
                have hrest : bq rs = (jv == 2) := by rw [hA2, show j = Ls.length by omega, hasn, hj3]
                cases hd6 : (bq rs) with
                | false =>
                  cases hd7 : (jv == 2) with
                  | false =>
                    have hp7 : ¬ jv = 2 := by simpa using hd7
                    refine run_auto [(149, .bool false), (195, .bool false), (196, .bool false), (197, iV ((m + 1 : Nat) : Int))] 21 [false, false] [] [2, 4, 5, 6, 8, 9, 10, 11, 85, 86] [0] (st' := ⟨[(2, pA b1), (4, .bool false), (5, iV (b : Int)), (6, .slice none 0 0), (8, iV fv), (9, iV fe), (10, iV av), (11, iV ae), (85, iV (p.last + 1)), (86, iV ((m + 1 : Nat) : Int))], [(b1, aO #[.slice p.ba p.bs.length p.bc, iV p.near, iV p.last, .slice p.ta p.ts.length p.tc] 33)]⟩) (acc := [(iV (IntKind.i64.wrap ((m : Int) + 1)), iV ((m + 1 : Nat) : Int)), (.bool false, .bool false), (.bool false, .bool false), (.bool (jv == 2), .bool false), (.bool false, .bool false), (.bool (decide ((j : Int) < 0)), .bool false)]) (by kernel_rfl) (by kernel_rfl) ⟨(wr (by omega) (by omega)), rfl, rfl, (bo hd7), rfl, (bo hd5), trivial⟩ ?_
                    exact run_round (by kernel_rfl) (hJ0 (m + 1) (by omega) (by omega))
                  | true =>
                    have hp7 : jv = 2 := by simpa using hd7
                    rw [hd6, hd7] at hrest
                    cases hrest
                | true =>
                  cases hd7 : (jv == 2) with
                  | false =>
                    have hp7 : ¬ jv = 2 := by simpa using hd7
                    rw [hd6, hd7] at hrest
                    cases hrest
                  | true =>
                    have hp7 : jv = 2 := by simpa using hd7
                    refine run_auto [(149, .bool false), (195, .bool true), (196, .bool false), (197, iV ((m + 1 : Nat) : Int))] 21 [false, false] [] [2, 4, 5, 6, 8, 9, 10, 11, 85, 86] [0] (st' := ⟨[(2, pA b1), (4, .bool false), (5, iV (b : Int)), (6, .slice none 0 0), (8, iV fv), (9, iV fe), (10, iV av), (11, iV ae), (85, iV (p.last + 1)), (86, iV ((m + 1 : Nat) : Int))], [(b1, aO #[.slice p.ba p.bs.length p.bc, iV p.near, iV p.last, .slice p.ta p.ts.length p.tc] 33)]⟩) (acc := [(iV (IntKind.i64.wrap ((m : Int) + 1)), iV ((m + 1 : Nat) : Int)), (.bool false, .bool false), (.bool false, .bool false), (.bool (jv == 2), .bool true), (.bool false, .bool false), (.bool (decide ((j : Int) < 0)), .bool false)]) (by kernel_rfl) (by kernel_rfl) ⟨(wr (by omega) (by omega)), rfl, rfl, (bo hd7), rfl, (bo hd5), trivial⟩ ?_
                    exact run_round (by kernel_rfl) (hJ0 (m + 1) (by omega) (by omega))
              | true =>
                have hp5 := of_decide_eq_true hd5
                exfalso
                omega
            · skip
              cases hd5 : (jv == 2) with
              | false =>
                have hp5 : ¬ jv = 2 := by simpa using hd5
                cases hd6 : (decide ((-p.near) ≤ (p.n.out b m).1)) with
                | false =>
                  have hp6 := of_decide_eq_false hd6
                  cases hd7 : (jv != 0) with
                  | false =>
                    have hp7 : jv = 0 := by simpa using hd7
                    refine run_auto [(104, .bool false), (107, .bool false), (111, .bool false), (116, iV (-p.near)), (117, .bool false), (125, .bool false), (129, .bool false)] 46 [false] [0, 1] [2, 4, 5, 6, 8, 9, 10, 11, 85, 86, 12, 15] [1] (st' := ⟨[(2, pA b1), (4, .bool false), (5, iV (b : Int)), (6, .slice none 0 0), (8, iV fv), (9, iV fe), (10, iV av), (11, iV ae), (85, iV (p.last + 1)), (86, iV (m : Int)), (12, iV (m : Int)), (15, iV jv)], [(b1, aO #[.slice p.ba p.bs.length p.bc, iV p.near, iV p.last, .slice p.ta p.ts.length p.tc] 33)]⟩) (acc := [(.bool false, .bool false), (.bool (jv != 0), .bool false), (.bool false, .bool false), (.bool (decide ((-p.near) ≤ (p.n.out b m).1)), .bool false), (iV (IntKind.i64.wrap (0 - p.near)), iV (-p.near)), (pA b1, pA b1), (pA b2, pA b2), (.bool (jv == 2), .bool false), (.bool false, .bool false), (.bool false, .bool false)]) (by kernel_rfl) (by kernel_rfl) ⟨rfl, (bo hd7), rfl, (bo hd6), ((wr (by omega) (by omega)).trans (io (by omega))), rfl, rfl, (bo hd5), rfl, rfl, trivial⟩ ?_
                    exact run_eqK (by kernel_rfl) hjoin14
                  | true =>
                    have hp7 : ¬ jv = 0 := by simpa using hd7
                    cases hd8 : (decide (p.near < (p.n.out b m).1)) with
                    | false =>
                      have hp8 := of_decide_eq_false hd8
                      cases hd9 : (decide ((p.n.out b m).2 < (-p.near))) with
                      | false =>
                        have hp9 := of_decide_eq_false hd9
                        refine run_auto [(104, .bool false), (107, .bool false), (111, .bool false), (116, iV (-p.near)), (117, .bool false), (125, .bool false), (129, .bool true), (135, .bool false), (141, iV (-p.near)), (142, .bool false)] 46 [false] [0, 1, 0, 1, 0, 1] [2, 4, 5, 6, 8, 9, 10, 11, 85, 86, 12, 15] [1] (st' := ⟨[(2, pA b1), (4, .bool false), (5, iV (b : Int)), (6, .slice none 0 0), (8, iV fv), (9, iV fe), (10, iV av), (11, iV ae), (85, iV (p.last + 1)), (86, iV (m : Int)), (12, iV (m : Int)), (15, iV jv)], [(b1, aO #[.slice p.ba p.bs.length p.bc, iV p.near, iV p.last, .slice p.ta p.ts.length p.tc] 33)]⟩) (acc := [(.bool false, .bool false), (.bool (decide ((p.n.out b m).2 < (-p.near))), .bool false), (iV (IntKind.i64.wrap (0 - p.near)), iV (-p.near)), (pA b1, pA b1), (pA b2, pA b2), (.bool (decide (p.near < (p.n.out b m).1)), .bool false), (pA b1, pA b1), (pA b2, pA b2), (.bool (jv != 0), .bool true), (.bool false, .bool false), (.bool (decide ((-p.near) ≤ (p.n.out b m).1)), .bool false), (iV (IntKind.i64.wrap (0 - p.near)), iV (-p.near)), (pA b1, pA b1), (pA b2, pA b2), (.bool (jv == 2), .bool false), (.bool false, .bool false), (.bool false, .bool false)]) (by kernel_rfl) (by kernel_rfl) ⟨rfl, (bo hd9), ((wr (by omega) (by omega)).trans (io (by omega))), rfl, rfl, (bo hd8), rfl, rfl, (bo hd7), rfl, (bo hd6), ((wr (by omega) (by omega)).trans (io (by omega))), rfl, rfl, (bo hd5), rfl, rfl, trivial⟩ ?_
                        exact run_eqK (by kernel_rfl) hjoin14
                      | true =>
                        have hp9 := of_decide_eq_true hd9
                        refine run_auto [(104, .bool false), (107, .bool false), (111, .bool false), (116, iV (-p.near)), (117, .bool false), (125, .bool false), (129, .bool true), (135, .bool false), (141, iV (-p.near)), (142, .bool true)] 50 [true] [0, 1, 0, 1, 0, 1] [2, 4, 5, 6, 8, 9, 10, 11, 85, 86, 12, 15] [1] (st' := ⟨[(2, pA b1), (4, .bool false), (5, iV (b : Int)), (6, .slice none 0 0), (8, iV fv), (9, iV fe), (10, iV av), (11, iV ae), (85, iV (p.last + 1)), (86, iV (m : Int)), (12, iV (m : Int)), (15, iV jv)], [(b1, aO #[.slice p.ba p.bs.length p.bc, iV p.near, iV p.last, .slice p.ta p.ts.length p.tc] 33)]⟩) (acc := [(.bool true, .bool true), (.bool (decide ((p.n.out b m).2 < (-p.near))), .bool true), (iV (IntKind.i64.wrap (0 - p.near)), iV (-p.near)), (pA b1, pA b1), (pA b2, pA b2), (.bool (decide (p.near < (p.n.out b m).1)), .bool false), (pA b1, pA b1), (pA b2, pA b2), (.bool (jv != 0), .bool true), (.bool false, .bool false), (.bool (decide ((-p.near) ≤ (p.n.out b m).1)), .bool false), (iV (IntKind.i64.wrap (0 - p.near)), iV (-p.near)), (pA b1, pA b1), (pA b2, pA b2), (.bool (jv == 2), .bool false), (.bool false, .bool false), (.bool false, .bool false)]) (by kernel_rfl) (by kernel_rfl) ⟨rfl, (bo hd9), ((wr (by omega) (by omega)).trans (io (by omega))), rfl, rfl, (bo hd8), rfl, rfl, (bo hd7), rfl, (bo hd6), ((wr (by omega) (by omega)).trans (io (by omega))), rfl, rfl, (bo hd5), rfl, rfl, trivial⟩ ?_
                        refine run_end (fn := f6) rfl (Nat.le_refl _) (by kernel_rfl) [] [.bool false] (e := []) (by kernel_rfl) trivial (fun w1 k1 h1 => ?_)
                        exfalso
                        omega
                    | true =>
                      have hp8 := of_decide_eq_true hd8
                      refine run_auto [(104, .bool false), (107, .bool false), (111, .bool false), (116, iV (-p.near)), (117, .bool false), (125, .bool false), (129, .bool true), (135, .bool true)] 50 [true] [0, 1, 0, 1] [2, 4, 5, 6, 8, 9, 10, 11, 85, 86, 12, 15] [1] (st' := ⟨[(2, pA b1), (4, .bool false), (5, iV (b : Int)), (6, .slice none 0 0), (8, iV fv), (9, iV fe), (10, iV av), (11, iV ae), (85, iV (p.last + 1)), (86, iV (m : Int)), (12, iV (m : Int)), (15, iV jv)], [(b1, aO #[.slice p.ba p.bs.length p.bc, iV p.near, iV p.last, .slice p.ta p.ts.length p.tc] 33)]⟩) (acc := [(.bool true, .bool true), (.bool (decide (p.near < (p.n.out b m).1)), .bool true), (pA b1, pA b1), (pA b2, pA b2), (.bool (jv != 0), .bool true), (.bool false, .bool false), (.bool (decide ((-p.near) ≤ (p.n.out b m).1)), .bool false), (iV (IntKind.i64.wrap (0 - p.near)), iV (-p.near)), (pA b1, pA b1), (pA b2, pA b2), (.bool (jv == 2), .bool false), (.bool false, .bool false), (.bool false, .bool false)]) (by kernel_rfl) (by kernel_rfl) ⟨rfl, (bo hd8), rfl, rfl, (bo hd7), rfl, (bo hd6), ((wr (by omega) (by omega)).trans (io (by omega))), rfl, rfl, (bo hd5), rfl, rfl, trivial⟩ ?_
                      refine run_end (fn := f6) rfl (Nat.le_refl _) (by kernel_rfl) [] [.bool false] (e := []) (by kernel_rfl) trivial (fun w1 k1 h1 => ?_)
                      exfalso
                      omega
                | true =>
                  have hp6 := of_decide_eq_true hd6
                  cases hd7 : (decide ((p.n.out b m).2 ≤ p.near)) with
                  | false =>
                    have hp7 := of_decide_eq_false hd7
                    cases hd8 : (jv != 0) with
                    | false =>
                      have hp8 : jv = 0 := by simpa using hd8
                      refine run_auto [(104, .bool false), (107, .bool false), (111, .bool false), (116, iV (-p.near)), (117, .bool true), (123, .bool false), (125, .bool false), (129, .bool false)] 46 [false] [0, 1, 0, 1] [2, 4, 5, 6, 8, 9, 10, 11, 85, 86, 12, 15] [1] (st' := ⟨[(2, pA b1), (4, .bool false), (5, iV (b : Int)), (6, .slice none 0 0), (8, iV fv), (9, iV fe), (10, iV av), (11, iV ae), (85, iV (p.last + 1)), (86, iV (m : Int)), (12, iV (m : Int)), (15, iV jv)], [(b1, aO #[.slice p.ba p.bs.length p.bc, iV p.near, iV p.last, .slice p.ta p.ts.length p.tc] 33)]⟩) (acc := [(.bool false, .bool false), (.bool (jv != 0), .bool false), (.bool false, .bool false), (.bool (decide ((p.n.out b m).2 ≤ p.near)), .bool false), (pA b1, pA b1), (pA b2, pA b2), (.bool (decide ((-p.near) ≤ (p.n.out b m).1)), .bool true), (iV (IntKind.i64.wrap (0 - p.near)), iV (-p.near)), (pA b1, pA b1), (pA b2, pA b2), (.bool (jv == 2), .bool false), (.bool false, .bool false), (.bool false, .bool false)]) (by kernel_rfl) (by kernel_rfl) ⟨rfl, (bo hd8), rfl, (bo hd7), rfl, rfl, (bo hd6), ((wr (by omega) (by omega)).trans (io (by omega))), rfl, rfl, (bo hd5), rfl, rfl, trivial⟩ ?_
                      exact run_eqK (by kernel_rfl) hjoin14
                    | true =>
                      have hp8 : ¬ jv = 0 := by simpa using hd8
                      cases hd9 : (decide (p.near < (p.n.out b m).1)) with
                      | false =>
                        have hp9 := of_decide_eq_false hd9
                        cases hd10 : (decide ((p.n.out b m).2 < (-p.near))) with
                        | false =>
                          have hp10 := of_decide_eq_false hd10
                          refine run_auto [(104, .bool false), (107, .bool false), (111, .bool false), (116, iV (-p.near)), (117, .bool true), (123, .bool false), (125, .bool false), (129, .bool true), (135, .bool false), (141, iV (-p.near)), (142, .bool false)] 46 [false] [0, 1, 0, 1, 0, 1, 0, 1] [2, 4, 5, 6, 8, 9, 10, 11, 85, 86, 12, 15] [1] (st' := ⟨[(2, pA b1), (4, .bool false), (5, iV (b : Int)), (6, .slice none 0 0), (8, iV fv), (9, iV fe), (10, iV av), (11, iV ae), (85, iV (p.last + 1)), (86, iV (m : Int)), (12, iV (m : Int)), (15, iV jv)], [(b1, aO #[.slice p.ba p.bs.length p.bc, iV p.near, iV p.last, .slice p.ta p.ts.length p.tc] 33)]⟩) (acc := [(.bool false, .bool false), (.bool (decide ((p.n.out b m).2 < (-p.near))), .bool false), (iV (IntKind.i64.wrap (0 - p.near)), iV (-p.near)), (pA b1, pA b1), (pA b2, pA b2), (.bool (decide (p.near < (p.n.out b m).1)), .bool false), (pA b1, pA b1), (pA b2, pA b2), (.bool (jv != 0), .bool true), (.bool false, .bool false), (.bool (decide ((p.n.out b m).2 ≤ p.near)), .bool false), (pA b1, pA b1), (pA b2, pA b2), (.bool (decide ((-p.near) ≤ (p.n.out b m).1)), .bool true), (iV (IntKind.i64.wrap (0 - p.near)), iV (-p.near)), (pA b1, pA b1), (pA b2, pA b2), (.bool (jv == 2), .bool false), (.bool false, .bool false), (.bool false, .bool false)]) (by kernel_rfl) (by kernel_rfl) ⟨rfl, (bo hd10), ((wr (by omega) (by omega)).trans (io (by omega))), rfl, rfl, (bo hd9), rfl, rfl, (bo hd8), rfl, (bo hd7), rfl, rfl, (bo hd6), ((wr (by omega) (by omega)).trans (io (by omega))), rfl, rfl, (bo hd5), rfl, rfl, trivial⟩ ?_
                          exact run_eqK (by kernel_rfl) hjoin14
                        | true =>
                          have hp10 := of_decide_eq_true hd10
                          refine run_auto [(104, .bool false), (107, .bool false), (111, .bool false), (116, iV (-p.near)), (117, .bool true), (123, .bool false), (125, .bool false), (129, .bool true), (135, .bool false), (141, iV (-p.near)), (142, .bool true)] 50 [true] [0, 1, 0, 1, 0, 1, 0, 1] [2, 4, 5, 6, 8, 9, 10, 11, 85, 86, 12, 15] [1] (st' := ⟨[(2, pA b1), (4, .bool false), (5, iV (b : Int)), (6, .slice none 0 0), (8, iV fv), (9, iV fe), (10, iV av), (11, iV ae), (85, iV (p.last + 1)), (86, iV (m : Int)), (12, iV (m : Int)), (15, iV jv)], [(b1, aO #[.slice p.ba p.bs.length p.bc, iV p.near, iV p.last, .slice p.ta p.ts.length p.tc] 33)]⟩) (acc := [(.bool true, .bool true), (.bool (decide ((p.n.out b m).2 < (-p.near))), .bool true), (iV (IntKind.i64.wrap (0 - p.near)), iV (-p.near)), (pA b1, pA b1), (pA b2, pA b2), (.bool (decide (p.near < (p.n.out b m).1)), .bool false), (pA b1, pA b1), (pA b2, pA b2), (.bool (jv != 0), .bool true), (.bool false, .bool false), (.bool (decide ((p.n.out b m).2 ≤ p.near)), .bool false), (pA b1, pA b1), (pA b2, pA b2), (.bool (decide ((-p.near) ≤ (p.n.out b m).1)), .bool true), (iV (IntKind.i64.wrap (0 - p.near)), iV (-p.near)), (pA b1, pA b1), (pA b2, pA b2), (.bool (jv == 2), .bool false), (.bool false, .bool false), (.bool false, .bool false)]) (by kernel_rfl) (by kernel_rfl) ⟨rfl, (bo hd10), ((wr (by omega) (by omega)).trans (io (by omega))), rfl, rfl, (bo hd9), rfl, rfl, (bo hd8), rfl, (bo hd7), rfl, rfl, (bo hd6), ((wr (by omega) (by omega)).trans (io (by omega))), rfl, rfl, (bo hd5), rfl, rfl, trivial⟩ ?_
                          refine run_end (fn := f6) rfl (Nat.le_refl _) (by kernel_rfl) [] [.bool false] (e := []) (by kernel_rfl) trivial (fun w1 k1 h1 => ?_)
                          exfalso
                          omega
                      | true =>
                        have hp9 := of_decide_eq_true hd9
                        refine run_auto [(104, .bool false), (107, .bool false), (111, .bool false), (116, iV (-p.near)), (117, .bool true), (123, .bool false), (125, .bool false), (129, .bool true), (135, .bool true)] 50 [true] [0, 1, 0, 1, 0, 1] [2, 4, 5, 6, 8, 9, 10, 11, 85, 86, 12, 15] [1] (st' := ⟨[(2, pA b1), (4, .bool false), (5, iV (b : Int)), (6, .slice none 0 0), (8, iV fv), (9, iV fe), (10, iV av), (11, iV ae), (85, iV (p.last + 1)), (86, iV (m : Int)), (12, iV (m : Int)), (15, iV jv)], [(b1, aO #[.slice p.ba p.bs.length p.bc, iV p.near, iV p.last, .slice p.ta p.ts.length p.tc] 33)]⟩) (acc := [(.bool true, .bool true), (.bool (decide (p.near < (p.n.out b m).1)), .bool true), (pA b1, pA b1), (pA b2, pA b2), (.bool (jv != 0), .bool true), (.bool false, .bool false), (.bool (decide ((p.n.out b m).2 ≤ p.near)), .bool false), (pA b1, pA b1), (pA b2, pA b2), (.bool (decide ((-p.near) ≤ (p.n.out b m).1)), .bool true), (iV (IntKind.i64.wrap (0 - p.near)), iV (-p.near)), (pA b1, pA b1), (pA b2, pA b2), (.bool (jv == 2), .bool false), (.bool false, .bool false), (.bool false, .bool false)]) (by kernel_rfl) (by kernel_rfl) ⟨rfl, (bo hd9), rfl, rfl, (bo hd8), rfl, (bo hd7), rfl, rfl, (bo hd6), ((wr (by omega) (by omega)).trans (io (by omega))), rfl, rfl, (bo hd5), rfl, rfl, trivial⟩ ?_
                        refine run_end (fn := f6) rfl (Nat.le_refl _) (by kernel_rfl) [] [.bool false] (e := []) (by kernel_rfl) trivial (fun w1 k1 h1 => ?_)
                        exfalso
                        omega
                  | true =>
                    have hp7 := of_decide_eq_true hd7
                    refine run_auto [(104, .bool false), (107, .bool false), (111, .bool false), (116, iV (-p.near)), (117, .bool true), (123, .bool true), (125, .bool true)] 50 [true] [0, 1, 0, 1] [2, 4, 5, 6, 8, 9, 10, 11, 85, 86, 12, 15] [1] (st' := ⟨[(2, pA b1), (4, .bool false), (5, iV (b : Int)), (6, .slice none 0 0), (8, iV fv), (9, iV fe), (10, iV av), (11, iV ae), (85, iV (p.last + 1)), (86, iV (m : Int)), (12, iV (m : Int)), (15, iV jv)], [(b1, aO #[.slice p.ba p.bs.length p.bc, iV p.near, iV p.last, .slice p.ta p.ts.length p.tc] 33)]⟩) (acc := [(.bool true, .bool true), (.bool true, .bool true), (.bool (decide ((p.n.out b m).2 ≤ p.near)), .bool true), (pA b1, pA b1), (pA b2, pA b2), (.bool (decide ((-p.near) ≤ (p.n.out b m).1)), .bool true), (iV (IntKind.i64.wrap (0 - p.near)), iV (-p.near)), (pA b1, pA b1), (pA b2, pA b2), (.bool (jv == 2), .bool false), (.bool false, .bool false), (.bool false, .bool false)]) (by kernel_rfl) (by kernel_rfl) ⟨rfl, rfl, (bo hd7), rfl, rfl, (bo hd6), ((wr (by omega) (by omega)).trans (io (by omega))), rfl, rfl, (bo hd5), rfl, rfl, trivial⟩ ?_
                    refine run_end (fn := f6) rfl (Nat.le_refl _) (by kernel_rfl) [] [.bool false] (e := []) (by kernel_rfl) trivial (fun w1 k1 h1 => ?_)
                    exfalso
                    omega
              | true =>
                have hp5 : jv = 2 := by simpa using hd5
                cases hd6 : (decide ((-p.near) ≤ (p.n.out b m).1)) with
                | false =>
                  have hp6 := of_decide_eq_false hd6
                  refine run_auto [(104, .bool false), (107, .bool false), (111, .bool true), (116, iV (-p.near)), (117, .bool false), (125, .bool true)] 50 [true] [0, 1] [2, 4, 5, 6, 8, 9, 10, 11, 85, 86, 12, 15] [1] (st' := ⟨[(2, pA b1), (4, .bool false), (5, iV (b : Int)), (6, .slice none 0 0), (8, iV fv), (9, iV fe), (10, iV av), (11, iV ae), (85, iV (p.last + 1)), (86, iV (m : Int)), (12, iV (m : Int)), (15, iV jv)], [(b1, aO #[.slice p.ba p.bs.length p.bc, iV p.near, iV p.last, .slice p.ta p.ts.length p.tc] 33)]⟩) (acc := [(.bool true, .bool true), (.bool true, .bool true), (.bool (decide ((-p.near) ≤ (p.n.out b m).1)), .bool false), (iV (IntKind.i64.wrap (0 - p.near)), iV (-p.near)), (pA b1, pA b1), (pA b2, pA b2), (.bool (jv == 2), .bool true), (.bool false, .bool false), (.bool false, .bool false)]) (by kernel_rfl) (by kernel_rfl) ⟨rfl, rfl, (bo hd6), ((wr (by omega) (by omega)).trans (io (by omega))), rfl, rfl, (bo hd5), rfl, rfl, trivial⟩ ?_
                  refine run_end (fn := f6) rfl (Nat.le_refl _) (by kernel_rfl) [] [.bool false] (e := []) (by kernel_rfl) trivial (fun w1 k1 h1 => ?_)
                  exfalso
                  omega
                | true =>
                  have hp6 := of_decide_eq_true hd6
                  cases hd7 : (decide ((p.n.out b m).2 ≤ p.near)) with
                  | false =>
                    have hp7 := of_decide_eq_false hd7
                    refine run_auto [(104, .bool false), (107, .bool false), (111, .bool true), (116, iV (-p.near)), (117, .bool true), (123, .bool false), (125, .bool true)] 50 [true] [0, 1, 0, 1] [2, 4, 5, 6, 8, 9, 10, 11, 85, 86, 12, 15] [1] (st' := ⟨[(2, pA b1), (4, .bool false), (5, iV (b : Int)), (6, .slice none 0 0), (8, iV fv), (9, iV fe), (10, iV av), (11, iV ae), (85, iV (p.last + 1)), (86, iV (m : Int)), (12, iV (m : Int)), (15, iV jv)], [(b1, aO #[.slice p.ba p.bs.length p.bc, iV p.near, iV p.last, .slice p.ta p.ts.length p.tc] 33)]⟩) (acc := [(.bool true, .bool true), (.bool true, .bool true), (.bool (decide ((p.n.out b m).2 ≤ p.near)), .bool false), (pA b1, pA b1), (pA b2, pA b2), (.bool (decide ((-p.near) ≤ (p.n.out b m).1)), .bool true), (iV (IntKind.i64.wrap (0 - p.near)), iV (-p.near)), (pA b1, pA b1), (pA b2, pA b2), (.bool (jv == 2), .bool true), (.bool false, .bool false), (.bool false, .bool false)]) (by kernel_rfl) (by kernel_rfl) ⟨rfl, rfl, (bo hd7), rfl, rfl, (bo hd6), ((wr (by omega) (by omega)).trans (io (by omega))), rfl, rfl, (bo hd5), rfl, rfl, trivial⟩ ?_
                    refine run_end (fn := f6) rfl (Nat.le_refl _) (by kernel_rfl) [] [.bool false] (e := []) (by kernel_rfl) trivial (fun w1 k1 h1 => ?_)
                    exfalso
                    omega
                  | true =>
                    have hp7 := of_decide_eq_true hd7
                    cases hd8 : (jv != 0) with
                    | false =>
                      have hp8 : jv = 0 := by simpa using hd8
                      refine run_auto [(104, .bool false), (107, .bool false), (111, .bool true), (116, iV (-p.near)), (117, .bool true), (123, .bool true), (125, .bool false), (129, .bool false)] 46 [false] [0, 1, 0, 1] [2, 4, 5, 6, 8, 9, 10, 11, 85, 86, 12, 15] [1] (st' := ⟨[(2, pA b1), (4, .bool false), (5, iV (b : Int)), (6, .slice none 0 0), (8, iV fv), (9, iV fe), (10, iV av), (11, iV ae), (85, iV (p.last + 1)), (86, iV (m : Int)), (12, iV (m : Int)), (15, iV jv)], [(b1, aO #[.slice p.ba p.bs.length p.bc, iV p.near, iV p.last, .slice p.ta p.ts.length p.tc] 33)]⟩) (acc := [(.bool false, .bool false), (.bool (jv != 0), .bool false), (.bool false, .bool false), (.bool (decide ((p.n.out b m).2 ≤ p.near)), .bool true), (pA b1, pA b1), (pA b2, pA b2), (.bool (decide ((-p.near) ≤ (p.n.out b m).1)), .bool true), (iV (IntKind.i64.wrap (0 - p.near)), iV (-p.near)), (pA b1, pA b1), (pA b2, pA b2), (.bool (jv == 2), .bool true), (.bool false, .bool false), (.bool false, .bool false)]) (by kernel_rfl) (by kernel_rfl) ⟨rfl, (bo hd8), rfl, (bo hd7), rfl, rfl, (bo hd6), ((wr (by omega) (by omega)).trans (io (by omega))), rfl, rfl, (bo hd5), rfl, rfl, trivial⟩ ?_
                      exact run_eqK (by kernel_rfl) hjoin14
                    | true =>
                      have hp8 : ¬ jv = 0 := by simpa using hd8
                      cases hd9 : (decide (p.near < (p.n.out b m).1)) with
                      | false =>
                        have hp9 := of_decide_eq_false hd9
                        cases hd10 : (decide ((p.n.out b m).2 < (-p.near))) with
                        | false =>
                          have hp10 := of_decide_eq_false hd10
                          refine run_auto [(104, .bool false), (107, .bool false), (111, .bool true), (116, iV (-p.near)), (117, .bool true), (123, .bool true), (125, .bool false), (129, .bool true), (135, .bool false), (141, iV (-p.near)), (142, .bool false)] 46 [false] [0, 1, 0, 1, 0, 1, 0, 1] [2, 4, 5, 6, 8, 9, 10, 11, 85, 86, 12, 15] [1] (st' := ⟨[(2, pA b1), (4, .bool false), (5, iV (b : Int)), (6, .slice none 0 0), (8, iV fv), (9, iV fe), (10, iV av), (11, iV ae), (85, iV (p.last + 1)), (86, iV (m : Int)), (12, iV (m : Int)), (15, iV jv)], [(b1, aO #[.slice p.ba p.bs.length p.bc, iV p.near, iV p.last, .slice p.ta p.ts.length p.tc] 33)]⟩) (acc := [(.bool false, .bool false), (.bool (decide ((p.n.out b m).2 < (-p.near))), .bool false), (iV (IntKind.i64.wrap (0 - p.near)), iV (-p.near)), (pA b1, pA b1), (pA b2, pA b2), (.bool (decide (p.near < (p.n.out b m).1)), .bool false), (pA b1, pA b1), (pA b2, pA b2), (.bool (jv != 0), .bool true), (.bool false, .bool false), (.bool (decide ((p.n.out b m).2 ≤ p.near)), .bool true), (pA b1, pA b1), (pA b2, pA b2), (.bool (decide ((-p.near) ≤ (p.n.out b m).1)), .bool true), (iV (IntKind.i64.wrap (0 - p.near)), iV (-p.near)), (pA b1, pA b1), (pA b2, pA b2), (.bool (jv == 2), .bool true), (.bool false, .bool false), (.bool false, .bool false)]) (by kernel_rfl) (by kernel_rfl) ⟨rfl, (bo hd10), ((wr (by omega) (by omega)).trans (io (by omega))), rfl, rfl, (bo hd9), rfl, rfl, (bo hd8), rfl, (bo hd7), rfl, rfl, (bo hd6), ((wr (by omega) (by omega)).trans (io (by omega))), rfl, rfl, (bo hd5), rfl, rfl, trivial⟩ ?_
                          exact run_eqK (by kernel_rfl) hjoin14
                        | true =>
                          have hp10 := of_decide_eq_true hd10
                          refine run_auto [(104, .bool false), (107, .bool false), (111, .bool true), (116, iV (-p.near)), (117, .bool true), (123, .bool true), (125, .bool false), (129, .bool true), (135, .bool false), (141, iV (-p.near)), (142, .bool true)] 50 [true] [0, 1, 0, 1, 0, 1, 0, 1] [2, 4, 5, 6, 8, 9, 10, 11, 85, 86, 12, 15] [1] (st' := ⟨[(2, pA b1), (4, .bool false), (5, iV (b : Int)), (6, .slice none 0 0), (8, iV fv), (9, iV fe), (10, iV av), (11, iV ae), (85, iV (p.last + 1)), (86, iV (m : Int)), (12, iV (m : Int)), (15, iV jv)], [(b1, aO #[.slice p.ba p.bs.length p.bc, iV p.near, iV p.last, .slice p.ta p.ts.length p.tc] 33)]⟩) (acc := [(.bool true, .bool true), (.bool (decide ((p.n.out b m).2 < (-p.near))), .bool true), (iV (IntKind.i64.wrap (0 - p.near)), iV (-p.near)), (pA b1, pA b1), (pA b2, pA b2), (.bool (decide (p.near < (p.n.out b m).1)), .bool false), (pA b1, pA b1), (pA b2, pA b2), (.bool (jv != 0), .bool true), (.bool false, .bool false), (.bool (decide ((p.n.out b m).2 ≤ p.near)), .bool true), (pA b1, pA b1), (pA b2, pA b2), (.bool (decide ((-p.near) ≤ (p.n.out b m).1)), .bool true), (iV (IntKind.i64.wrap (0 - p.near)), iV (-p.near)), (pA b1, pA b1), (pA b2, pA b2), (.bool (jv == 2), .bool true), (.bool false, .bool false), (.bool false, .bool false)]) (by kernel_rfl) (by kernel_rfl) ⟨rfl, (bo hd10), ((wr (by omega) (by omega)).trans (io (by omega))), rfl, rfl, (bo hd9), rfl, rfl, (bo hd8), rfl, (bo hd7), rfl, rfl, (bo hd6), ((wr (by omega) (by omega)).trans (io (by omega))), rfl, rfl, (bo hd5), rfl, rfl, trivial⟩ ?_
                          refine run_end (fn := f6) rfl (Nat.le_refl _) (by kernel_rfl) [] [.bool false] (e := []) (by kernel_rfl) trivial (fun w1 k1 h1 => ?_)
                          exfalso
                          omega
                      | true =>
                        have hp9 := of_decide_eq_true hd9
                        refine run_auto [(104, .bool false), (107, .bool false), (111, .bool true), (116, iV (-p.near)), (117, .bool true), (123, .bool true), (125, .bool false), (129, .bool true), (135, .bool true)] 50 [true] [0, 1, 0, 1, 0, 1] [2, 4, 5, 6, 8, 9, 10, 11, 85, 86, 12, 15] [1] (st' := ⟨[(2, pA b1), (4, .bool false), (5, iV (b : Int)), (6, .slice none 0 0), (8, iV fv), (9, iV fe), (10, iV av), (11, iV ae), (85, iV (p.last + 1)), (86, iV (m : Int)), (12, iV (m : Int)), (15, iV jv)], [(b1, aO #[.slice p.ba p.bs.length p.bc, iV p.near, iV p.last, .slice p.ta p.ts.length p.tc] 33)]⟩) (acc := [(.bool true, .bool true), (.bool (decide (p.near < (p.n.out b m).1)), .bool true), (pA b1, pA b1), (pA b2, pA b2), (.bool (jv != 0), .bool true), (.bool false, .bool false), (.bool (decide ((p.n.out b m).2 ≤ p.near)), .bool true), (pA b1, pA b1), (pA b2, pA b2), (.bool (decide ((-p.near) ≤ (p.n.out b m).1)), .bool true), (iV (IntKind.i64.wrap (0 - p.near)), iV (-p.near)), (pA b1, pA b1), (pA b2, pA b2), (.bool (jv == 2), .bool true), (.bool false, .bool false), (.bool false, .bool false)]) (by kernel_rfl) (by kernel_rfl) ⟨rfl, (bo hd9), rfl, rfl, (bo hd8), rfl, (bo hd7), rfl, rfl, (bo hd6), ((wr (by omega) (by omega)).trans (io (by omega))), rfl, rfl, (bo hd5), rfl, rfl, trivial⟩ ?_
                        refine run_end (fn := f6) rfl (Nat.le_refl _) (by kernel_rfl) [] [.bool false] (e := []) (by kernel_rfl) trivial (fun w1 k1 h1 => ?_)
                        exfalso
                        omega
        · skip
          cases hd4 : (fe != 0) with
          | false =>
            have hp4 : fe = 0 := by simpa using hd4
            exfalso
            omega
          | true =>
            have hp4 : ¬ fe = 0 := by simpa using hd4
            cases hd5 : (fe != 4) with
            | false =>
              have hp5 : fe = 4 := by simpa using hd5
              cases hd6 : (fv != 0) with
              | false =>
                have hp6 : fv = 0 := by simpa using hd6
                cases hd7 : (ae != 0) with
                | false =>
                  have hp7 : ae = 0 := by simpa using hd7
                  refine run_auto [(58, .bool false), (61, .bool true), (64, .bool false), (67, .bool false), (73, .bool false)] 29 [false] [] [2, 4, 5, 6, 8, 9, 10, 11] [0] (st' := ⟨[(2, pA b1), (4, .bool false), (5, iV (b : Int)), (6, .slice none 0 0), (8, iV fv), (9, iV fe), (10, iV av), (11, iV ae)], [(b1, aO #[.slice p.ba p.bs.length p.bc, iV p.near, iV p.last, .slice p.ta p.ts.length p.tc] 33)]⟩) (acc := [(.bool false, .bool false), (.bool (ae != 0), .bool false), (.bool (fv != 0), .bool false), (.bool (fe != 4), .bool false), (.bool (fe != 0), .bool true), (.bool false, .bool false)]) (by kernel_rfl) (by kernel_rfl) ⟨rfl, (bo hd7), (bo hd6), (bo hd5), (bo hd4), rfl, trivial⟩ ?_
                  exact run_eqK (by kernel_rfl) hjoin7
                | true =>
                  have hp7 : ¬ ae = 0 := by simpa using hd7
                  cases hd8 : (ae != 4) with
                  | false =>
                    have hp8 : ae = 4 := by simpa using hd8
                    cases hd9 : (av != 0) with
                    | false =>
                      have hp9 : av = 0 := by simpa using hd9
                      refine run_auto [(58, .bool false), (61, .bool true), (64, .bool false), (67, .bool false), (73, .bool true), (76, .bool false), (79, .bool false)] 29 [false] [] [2, 4, 5, 6, 8, 9, 10, 11] [0] (st' := ⟨[(2, pA b1), (4, .bool false), (5, iV (b : Int)), (6, .slice none 0 0), (8, iV fv), (9, iV fe), (10, iV av), (11, iV ae)], [(b1, aO #[.slice p.ba p.bs.length p.bc, iV p.near, iV p.last, .slice p.ta p.ts.length p.tc] 33)]⟩) (acc := [(.bool false, .bool false), (.bool (av != 0), .bool false), (.bool (ae != 4), .bool false), (.bool (ae != 0), .bool true), (.bool (fv != 0), .bool false), (.bool (fe != 4), .bool false), (.bool (fe != 0), .bool true), (.bool false, .bool false)]) (by kernel_rfl) (by kernel_rfl) ⟨rfl, (bo hd9), (bo hd8), (bo hd7), (bo hd6), (bo hd5), (bo hd4), rfl, trivial⟩ ?_
                      exact run_eqK (by kernel_rfl) hjoin7
                    | true =>
                      have hp9 : ¬ av = 0 := by simpa using hd9
                      refine run_auto [(58, .bool false), (61, .bool true), (64, .bool false), (67, .bool false), (73, .bool true), (76, .bool false), (79, .bool true)] 33 [true] [] [2, 4, 5, 6, 8, 9, 10, 11] [0] (st' := ⟨[(2, pA b1), (4, .bool false), (5, iV (b : Int)), (6, .slice none 0 0), (8, iV fv), (9, iV fe), (10, iV av), (11, iV ae)], [(b1, aO #[.slice p.ba p.bs.length p.bc, iV p.near, iV p.last, .slice p.ta p.ts.length p.tc] 33)]⟩) (acc := [(.bool true, .bool true), (.bool (av != 0), .bool true), (.bool (ae != 4), .bool false), (.bool (ae != 0), .bool true), (.bool (fv != 0), .bool false), (.bool (fe != 4), .bool false), (.bool (fe != 0), .bool true), (.bool false, .bool false)]) (by kernel_rfl) (by kernel_rfl) ⟨rfl, (bo hd9), (bo hd8), (bo hd7), (bo hd6), (bo hd5), (bo hd4), rfl, trivial⟩ ?_
                      refine run_end (fn := f6) rfl (Nat.le_refl _) (by kernel_rfl) [] [.bool false] (e := []) (by kernel_rfl) trivial (fun w1 k1 h1 => ?_)
                      exfalso
                      omega
                  | true =>
                    have hp8 : ¬ ae = 4 := by simpa using hd8
                    refine run_auto [(58, .bool false), (61, .bool true), (64, .bool false), (67, .bool false), (73, .bool true), (76, .bool true)] 33 [true] [] [2, 4, 5, 6, 8, 9, 10, 11] [0] (st' := ⟨[(2, pA b1), (4, .bool false), (5, iV (b : Int)), (6, .slice none 0 0), (8, iV fv), (9, iV fe), (10, iV av), (11, iV ae)], [(b1, aO #[.slice p.ba p.bs.length p.bc, iV p.near, iV p.last, .slice p.ta p.ts.length p.tc] 33)]⟩) (acc := [(.bool true, .bool true), (.bool (ae != 4), .bool true), (.bool (ae != 0), .bool true), (.bool (fv != 0), .bool false), (.bool (fe != 4), .bool false), (.bool (fe != 0), .bool true), (.bool false, .bool false)]) (by kernel_rfl) (by kernel_rfl) ⟨rfl, (bo hd8), (bo hd7), (bo hd6), (bo hd5), (bo hd4), rfl, trivial⟩ ?_
                    refine run_end (fn := f6) rfl (Nat.le_refl _) (by kernel_rfl) [] [.bool false] (e := []) (by kernel_rfl) trivial (fun w1 k1 h1 => ?_)
                    exfalso
                    omega
              | true =>
                have hp6 : ¬ fv = 0 := by simpa using hd6
                refine run_auto [(58, .bool false), (61, .bool true), (64, .bool false), (67, .bool true)] 33 [true] [] [2, 4, 5, 6, 8, 9, 10, 11] [0] (st' := ⟨[(2, pA b1), (4, .bool false), (5, iV (b : Int)), (6, .slice none 0 0), (8, iV fv), (9, iV fe), (10, iV av), (11, iV ae)], [(b1, aO #[.slice p.ba p.bs.length p.bc, iV p.near, iV p.last, .slice p.ta p.ts.length p.tc] 33)]⟩) (acc := [(.bool true, .bool true), (.bool (fv != 0), .bool true), (.bool (fe != 4), .bool false), (.bool (fe != 0), .bool true), (.bool false, .bool false)]) (by kernel_rfl) (by kernel_rfl) ⟨rfl, (bo hd6), (bo hd5), (bo hd4), rfl, trivial⟩ ?_
                refine run_end (fn := f6) rfl (Nat.le_refl _) (by kernel_rfl) [] [.bool false] (e := []) (by kernel_rfl) trivial (fun w1 k1 h1 => ?_)
                exfalso
                omega
            | true =>
              have hp5 : ¬ fe = 4 := by simpa using hd5
              refine run_auto [(58, .bool false), (61, .bool true), (64, .bool true)] 33 [true] [] [2, 4, 5, 6, 8, 9, 10, 11] [0] (st' := ⟨[(2, pA b1), (4, .bool false), (5, iV (b : Int)), (6, .slice none 0 0), (8, iV fv), (9, iV fe), (10, iV av), (11, iV ae)], [(b1, aO #[.slice p.ba p.bs.length p.bc, iV p.near, iV p.last, .slice p.ta p.ts.length p.tc] 33)]⟩) (acc := [(.bool true, .bool true), (.bool (fe != 4), .bool true), (.bool (fe != 0), .bool true), (.bool false, .bool false)]) (by kernel_rfl) (by kernel_rfl) ⟨rfl, (bo hd5), (bo hd4), rfl, trivial⟩ ?_
              refine run_end (fn := f6) rfl (Nat.le_refl _) (by kernel_rfl) [] [.bool false] (e := []) (by kernel_rfl) trivial (fun w1 k1 h1 => ?_)
              exfalso
              omega
  | true =>
    refine run_ret1 21 #[.agg #[.slice p.ba p.bs.length p.bc, iV p.near, iV p.last, .slice p.ta p.ts.length p.tc]] (some 27) (.bool true) (by kernel_rfl) (fun w1 k1 h1 => (by have h := long_any p w1; rw [hd1] at h; exact h)) ?_
    refine run_auto [] 9 [true] [] [1, 2, 4] [0] (st' := ⟨[(1, .int .u8 y), (2, pA b1), (4, .bool false)], [(b1, aO #[.slice p.ba p.bs.length p.bc, iV p.near, iV p.last, .slice p.ta p.ts.length p.tc] 33)]⟩) (acc := [(.bool true, .bool true)]) (by kernel_rfl) (by kernel_rfl) ⟨rfl, trivial⟩ ?_
    refine run_ret1 19 #[] (some 33) (.bool true) (by kernel_rfl) (fun w1 k1 h1 => alive_any w1) ?_
    refine run_auto [] 2 [] [] [1, 2, 4] [0] (st' := ⟨[(1, .int .u8 y), (2, pA b1), (4, .bool true)], [(b1, aO #[.slice p.ba p.bs.length p.bc, iV p.near, iV p.last, .slice p.ta p.ts.length p.tc] 33)]⟩) (acc := []) (by kernel_rfl) (by kernel_rfl) trivial ?_
    refine run_end (fn := f6) rfl (Nat.le_refl _) (by kernel_rfl) [] [.bool true] (e := []) (by kernel_rfl) trivial (fun w1 k1 h1 => ?_)
    exact ⟨rfl, k1.keeps (fun _ h => h)⟩

end Go.Proofs.Ytfjfkaaflghaiaa
