/-
  LAW: SettleWait, walked.
-/
import Derived.Test.YtfjfkaaflghaiaaHW1
namespace Go.Proofs.Ytfjfkaaflghaiaa
open Go.RowKit Go.Proofs.Try
attribute [local irreducible] Run wpK

set_option maxRecDepth 100000 in
set_option maxHeartbeats 4000000 in
theorem settleWait_any (p : Sb) (y z : Int) (y1 : 0 ≤ y) (y2 : y ≤ 255) (z1 : 0 ≤ z) (z2 : z ≤ 255) (w : World) (hp : p.In w) : Calls Try.prog 7 #[.agg #[.slice p.ba p.bs.length p.bc, .int .i64 p.near, .int .i64 p.last, .slice p.ta p.ts.length p.tc], .int .u8 y, .int .u8 z] w (RetB true w) := by
  obtain ⟨r, hr⟩ : ∃ r, z % 201 = r := ⟨_, rfl⟩
  obtain ⟨xn, hh⟩ : ∃ x, r - 100 = x := ⟨_, rfl⟩
  obtain ⟨ls, hls⟩ : ∃ x, xn - min 1 (max (-1) xn) = x := ⟨_, rfl⟩
  have hlb := hp.lb
  have hlt0 := hp.lt
  simp only [maxLen] at hlb hlt0
  refine calls_run (fn := f7) (c := (f7.body).getD .skip) [.agg #[.slice p.ba p.bs.length p.bc, .int .i64 p.near, .int .i64 p.last, .slice p.ta p.ts.length p.tc], .int .u8 y, .int .u8 z] func7 (by kernel_rfl) (fun _ => False) [] (fun _ h => by cases h) (List.Pairwise.nil) 158 (by kernel_rfl) (by simp) ?_
  refine run_auto [] 2 [] [] [0, 1, 2] [] (st' := ⟨[(0, .agg #[.slice p.ba p.bs.length p.bc, iV p.near, iV p.last, .slice p.ta p.ts.length p.tc]), (1, .int .u8 y), (2, .int .u8 z)], []⟩) (acc := []) (by kernel_rfl) (by kernel_rfl) trivial ?_
  refine run_new (aO #[.slice p.ba p.bs.length p.bc, iV p.near, iV p.last, .slice p.ta p.ts.length p.tc] 33) (fun b1 => pA b1) (some 3) (fun _ => by kernel_rfl) (fun b1 hb1 => ?_)
  refine run_auto [] 6 [] [0] [1, 2, 3, 6, 21] [0] (st' := ⟨[(1, .int .u8 y), (2, .int .u8 z), (3, pA b1), (6, .bool false), (21, .agg #[.slice p.ba p.bs.length p.bc, iV p.near, iV p.last, .slice p.ta p.ts.length p.tc])], [(b1, aO #[.slice p.ba p.bs.length p.bc, iV p.near, iV p.last, .slice p.ta p.ts.length p.tc] 33)]⟩) (acc := [(pA b1, pA b1)]) (by kernel_rfl) (by kernel_rfl) ⟨rfl, trivial⟩ ?_
  cases hd1 : (lonB p) with
  | false =>
    refine run_ret1 21 #[.agg #[.slice p.ba p.bs.length p.bc, iV p.near, iV p.last, .slice p.ta p.ts.length p.tc]] (some 22) (.bool false) (by kernel_rfl) (fun w1 k1 h1 => (by have h := long_any p w1; rw [hd1] at h; exact h)) ?_
    refine run_auto [] 2 [] [0] [1, 2, 3, 6, 23, 24] [0] (st' := ⟨[(1, .int .u8 y), (2, .int .u8 z), (3, pA b1), (6, .bool false), (23, .bool false), (24, .agg #[.slice p.ba p.bs.length p.bc, iV p.near, iV p.last, .slice p.ta p.ts.length p.tc])], [(b1, aO #[.slice p.ba p.bs.length p.bc, iV p.near, iV p.last, .slice p.ta p.ts.length p.tc] 33)]⟩) (acc := [(pA b1, pA b1)]) (by kernel_rfl) (by kernel_rfl) ⟨rfl, trivial⟩ ?_
    cases hd2 : p.n.ok with
    | false =>
      refine run_ret1 22 #[.agg #[.slice p.ba p.bs.length p.bc, iV p.near, iV p.last, .slice p.ta p.ts.length p.tc]] (some 25) (.bool false) (by kernel_rfl) (fun w1 k1 h1 => (by have h := rsettle_any p w1 (hp.keep (k1.keeps (fun _ h => h))); rw [hd2] at h; exact h)) ?_
      refine run_auto [(26, .bool true)] 6 [true] [] [1, 2, 3, 6] [0] (st' := ⟨[(1, .int .u8 y), (2, .int .u8 z), (3, pA b1), (6, .bool false)], [(b1, aO #[.slice p.ba p.bs.length p.bc, iV p.near, iV p.last, .slice p.ta p.ts.length p.tc] 33)]⟩) (acc := [(.bool true, .bool true), (.bool true, .bool true)]) (by kernel_rfl) (by kernel_rfl) ⟨rfl, rfl, trivial⟩ ?_
      refine run_ret1 19 #[] (some 28) (.bool true) (by kernel_rfl) (fun w1 k1 h1 => alive_any w1) ?_
      refine run_auto [] 2 [] [] [1, 2, 3, 6] [0] (st' := ⟨[(1, .int .u8 y), (2, .int .u8 z), (3, pA b1), (6, .bool true)], [(b1, aO #[.slice p.ba p.bs.length p.bc, iV p.near, iV p.last, .slice p.ta p.ts.length p.tc] 33)]⟩) (acc := []) (by kernel_rfl) (by kernel_rfl) trivial ?_
      refine run_end (fn := f7) rfl (Nat.le_refl _) (by kernel_rfl) [] [.bool true] (e := []) (by kernel_rfl) trivial (fun w1 k1 h1 => ?_)
      exact ⟨rfl, k1.keeps (fun _ h => h)⟩
    | true =>
      have hok := hd2
      have hF := Sn.fine hok
      have hn1 : 1 ≤ p.bs.length := hF.n1
      have hn4 : p.bs.length ≤ 4 := hF.n4
      have hnr : 0 ≤ p.near ∧ p.near ≤ 20 := hF.nr
      obtain ⟨b, hbq, hbm⟩ := emod_nat (x := y) (n := (p.bs.length : Int)) (by omega)
      have hbl : b < p.bs.length := by omega
      have hB := hF.bkF hbl
      have hx0 : -100 ≤ xn ∧ xn ≤ 100 := by omega
      have hx1 : -100 ≤ -xn ∧ -xn ≤ 100 := by omega
      have hx2 : -100 ≤ ls ∧ ls ≤ 100 := by omega
      obtain ⟨wv, hwv⟩ : ∃ x, inA (waitR p.n b (xn)) = x := ⟨_, rfl⟩
      obtain ⟨we, hwe⟩ : ∃ x, erA (waitR p.n b (xn)) = x := ⟨_, rfl⟩
      have hWwv := wait_is hok hbl hx0 hwv hwe
      obtain ⟨ov, hov⟩ : ∃ x, inA (waitR p.n b (-xn)) = x := ⟨_, rfl⟩
      obtain ⟨od, hod⟩ : ∃ x, erA (waitR p.n b (-xn)) = x := ⟨_, rfl⟩
      have hWov := wait_is hok hbl hx1 hov hod
      obtain ⟨lv, hlv⟩ : ∃ x, inA (waitR p.n b (ls)) = x := ⟨_, rfl⟩
      obtain ⟨le_, hle_⟩ : ∃ x, erA (waitR p.n b (ls)) = x := ⟨_, rfl⟩
      have hWlv := wait_is hok hbl hx2 hlv hle_
      rw [show abI (-xn) = abI xn from by unfold abI; omega] at hWov
      have hq1 := hWwv.same hWov
      have hq2 := hWwv.less hB hWlv (show abI ls ≤ abI xn by unfold abI; omega)
      have hq3 : wv = 0 ↔ max xn (-xn) ≤ p.near := hWwv.zero hB
      have hq4 := hWwv.1
      have hq5 := hWov.1
      have hq6 := hWlv.1
      have hq7 : 0 ≤ wv ∧ wv ≤ 100 := by obtain ⟨_, y, hy, hy2, _⟩ := hWwv; omega
      have hlt : b < p.bs.length := by omega
      obtain ⟨be, oe, hbe, hc⟩ := hp.bk (by intro h; rw [h] at hlt; cases hlt)
      have hc := hc b hlt
      refine run_ret1 22 #[.agg #[.slice p.ba p.bs.length p.bc, iV p.near, iV p.last, .slice p.ta p.ts.length p.tc]] (some 25) (.bool true) (by kernel_rfl) (fun w1 k1 h1 => (by have h := rsettle_any p w1 (hp.keep (k1.keeps (fun _ h => h))); rw [hd2] at h; exact h)) ?_
      refine run_auto [(26, .bool false), (30, iV y)] 12 [false] [0] [2, 3, 6, 30, 33] [0] (st' := ⟨[(2, .int .u8 z), (3, pA b1), (6, .bool false), (30, iV y), (33, iV (p.bs.length : Int))], [(b1, aO #[.slice p.ba p.bs.length p.bc, iV p.near, iV p.last, .slice p.ta p.ts.length p.tc] 33)]⟩) (acc := [(pA b1, pA b1), (iV (IntKind.i64.wrap y), iV y), (.bool false, .bool false), (.bool false, .bool false)]) (by kernel_rfl) (by kernel_rfl) ⟨rfl, (wr (by omega) (by omega)), rfl, rfl, trivial⟩ ?_
      refine run_v (binOp .rem 3 (iV y) (iV (p.bs.length : Int)) >>= fun v => pure (Next.value v)) (some 34) (iV (b : Int)) (by kernel_rfl) (fun w1 k1 h1 => (by have h := rem_run (P := Try.prog) (w := w1) (t := 3) y (p.bs.length : Int) (by omega) (by omega); rw [hbq] at h; exact h)) ?_
      refine run_auto [(36, iV z), (37, iV r), (38, iV xn)] 12 [] [0] [3, 6, 7, 8, 40, 41, 42] [0] (st' := ⟨[(3, pA b1), (6, .bool false), (7, iV (b : Int)), (8, iV xn), (40, .agg #[.slice p.ba p.bs.length p.bc, iV p.near, iV p.last, .slice p.ta p.ts.length p.tc]), (41, iV (b : Int)), (42, iV xn)], [(b1, aO #[.slice p.ba p.bs.length p.bc, iV p.near, iV p.last, .slice p.ta p.ts.length p.tc] 33)]⟩) (acc := [(pA b1, pA b1), (iV (IntKind.i64.wrap (r - 100)), iV xn), (iV (Int.tmod z 201), iV r), (iV (IntKind.i64.wrap z), iV z)]) (by kernel_rfl) (by kernel_rfl) ⟨rfl, ((wr (by omega) (by omega)).trans (io hh)), ((rm 201 (by omega)).trans (io hr)), (wr (by omega) (by omega)), trivial⟩ ?_
      refine run_ret1 17 #[.agg #[.slice p.ba p.bs.length p.bc, iV p.near, iV p.last, .slice p.ta p.ts.length p.tc], iV (b : Int), iV xn] (some 43) (.tuple #[iV wv, iV we]) (by kernel_rfl) (fun w1 k1 h1 => (by have h := Wait_any p (b : Int) (xn) w1 (hp.keep (k1.keeps (fun _ h => h))); rw [hwv, hwe] at h; exact h)) ?_
      refine run_auto [(50, iV (-xn))] 12 [] [0] [3, 6, 7, 8, 9, 10, 47, 48, 50] [0] (st' := ⟨[(3, pA b1), (6, .bool false), (7, iV (b : Int)), (8, iV xn), (9, iV wv), (10, iV we), (47, .agg #[.slice p.ba p.bs.length p.bc, iV p.near, iV p.last, .slice p.ta p.ts.length p.tc]), (48, iV (b : Int)), (50, iV (-xn))], [(b1, aO #[.slice p.ba p.bs.length p.bc, iV p.near, iV p.last, .slice p.ta p.ts.length p.tc] 33)]⟩) (acc := [(iV (IntKind.i64.wrap (0 - xn)), iV (-xn)), (pA b1, pA b1)]) (by kernel_rfl) (by kernel_rfl) ⟨((wr (by omega) (by omega)).trans (io (by omega))), rfl, trivial⟩ ?_
      refine run_ret1 17 #[.agg #[.slice p.ba p.bs.length p.bc, iV p.near, iV p.last, .slice p.ta p.ts.length p.tc], iV (b : Int), iV (-xn)] (some 51) (.tuple #[iV ov, iV od]) (by kernel_rfl) (fun w1 k1 h1 => (by have h := Wait_any p (b : Int) ((-xn)) w1 (hp.keep (k1.keeps (fun _ h => h))); rw [hov, hod] at h; exact h)) ?_
      refine run_auto [(59, iV (max (-1) xn)), (60, iV (min 1 (max (-1) xn))), (61, iV ls)] 15 [] [0] [3, 6, 7, 8, 9, 10, 11, 12, 55, 56, 61] [0] (st' := ⟨[(3, pA b1), (6, .bool false), (7, iV (b : Int)), (8, iV xn), (9, iV wv), (10, iV we), (11, iV ov), (12, iV od), (55, .agg #[.slice p.ba p.bs.length p.bc, iV p.near, iV p.last, .slice p.ta p.ts.length p.tc]), (56, iV (b : Int)), (61, iV ls)], [(b1, aO #[.slice p.ba p.bs.length p.bc, iV p.near, iV p.last, .slice p.ta p.ts.length p.tc] 33)]⟩) (acc := [(iV (IntKind.i64.wrap (xn - min 1 (max (-1) xn))), iV ls), (iV (if (max (-1) xn) < 1 then (max (-1) xn) else 1), iV (min 1 (max (-1) xn))), (iV (if xn > (-1) then xn else (-1)), iV (max (-1) xn)), (pA b1, pA b1)]) (by kernel_rfl) (by kernel_rfl) ⟨((wr (by omega) (by omega)).trans (io hls)), (mn _ _ _), (mx _ _ _), rfl, trivial⟩ ?_
      refine run_ret1 17 #[.agg #[.slice p.ba p.bs.length p.bc, iV p.near, iV p.last, .slice p.ta p.ts.length p.tc], iV (b : Int), iV ls] (some 62) (.tuple #[iV lv, iV le_]) (by kernel_rfl) (fun w1 k1 h1 => (by have h := Wait_any p (b : Int) (ls) w1 (hp.keep (k1.keeps (fun _ h => h))); rw [hlv, hle_] at h; exact h)) ?_
      cases hd3 : (we != 0) with
      | false =>
        have hp3 : we = 0 := by simpa using hd3
        cases hd4 : (od != 0) with
        | false =>
          have hp4 : od = 0 := by simpa using hd4
          cases hd5 : (le_ != 0) with
          | false =>
            have hp5 : le_ = 0 := by simpa using hd5
            cases hd6 : (decide (wv < 0)) with
            | false =>
              have hp6 := of_decide_eq_false hd6
              cases hd7 : (ov != wv) with
              | false =>
                have hp7 : ov = wv := by simpa using hd7
                cases hd8 : (decide (wv < lv)) with
                | false =>
                  have hp8 := of_decide_eq_false hd8
                  cases hd9 : (wv == 0) with
                  | false =>
                    have hp9 : ¬ wv = 0 := by simpa using hd9
                    cases hd10 : (decide ((max xn (-xn)) ≤ p.near)) with
                    | false =>
                      have hp10 := of_decide_eq_false hd10
                      cases hd11 : (decide (60 < wv)) with
                      | false =>
                        have hp11 := of_decide_eq_false hd11
                        have hlw : 1 ≤ max 1 wv ∧ max 1 wv ≤ 60 := by omega
                        have hokA := al_ok hF hbl hx0 hlw
                        have hwn := al_when hF hbl hx0 hlw hWwv (by omega)
                        refine run_auto [(66, .bool false), (69, .bool false), (73, .bool false), (77, .bool false), (82, .bool false), (87, .bool false), (91, .bool false), (94, iV (-xn)), (95, iV (max xn (-xn))), (98, .bool false), (99, .bool false), (102, .bool false)] 57 [false, false] [0] [3, 6, 7, 8, 9] [0] (st' := ⟨[(3, pA b1), (6, .bool false), (7, iV (b : Int)), (8, iV xn), (9, iV wv)], [(b1, aO #[.slice p.ba p.bs.length p.bc, iV p.near, iV p.last, .slice p.ta p.ts.length p.tc] 33)]⟩) (acc := [(.bool false, .bool false), (.bool (decide (60 < wv)), .bool false), (.bool false, .bool false), (.bool false, .bool false), (.bool (decide ((max xn (-xn)) ≤ p.near)), .bool false), (pA b1, pA b1), (iV (if (-xn) > xn then (-xn) else xn), iV (max xn (-xn))), (iV (IntKind.i64.wrap (0 - xn)), iV (-xn)), (.bool (wv == 0), .bool false), (.bool (decide (wv < lv)), .bool false), (.bool (ov != wv), .bool false), (.bool (decide (wv < 0)), .bool false), (.bool (le_ != 0), .bool false), (.bool (od != 0), .bool false), (.bool (we != 0), .bool false)]) (by kernel_rfl) (by kernel_rfl) ⟨rfl, (bo hd11), rfl, rfl, (bo hd10), rfl, (mx _ _ _), ((wr (by omega) (by omega)).trans (io (by omega))), (bo hd9), (bo hd8), (bo hd7), (bo hd6), (bo hd5), (bo hd4), (bo hd3), trivial⟩ ?_
                        refine drawW 18 [{ val := fun _ => iV xn, slots := [8] },
                                                  { val := fun _ => iV xn, slots := [8] },
                                                  { val := fun _ => .agg #[iV xn, iV xn], slots := [104, 105] },
                                                  { val := fun _ => pA b1, slots := [3] },
                                                  { val := fun _ => .slice p.ba p.bs.length p.bc, slots := [107], reads := [0] },
                                                  { val := fun _ => iV (b : Int), slots := [7] },
                                                  { val := fun _ => .pointer (some ⟨be, oe + b * 6, none⟩), slots := [108, 109] },
                                                  { val := fun _ => .pointer (some ⟨be, oe + b * 6 + 2, none⟩), slots := [110] },
                                                  { val := fun _ => .agg #[iV (elB p.bs b).2.2.1, iV (elB p.bs b).2.2.2.1], slots := [111] },
                                                  { val := fun _ => .agg #[iV xn, iV xn, iV (elB p.bs b).2.2.1, iV (elB p.bs b).2.2.2.1, iV 0, iV 0], slots := [106, 112] },
                                                  { names := [11], val := fun l => .slice (some ⟨(l.getD 0 0), 0, none⟩) 1 1, upd := [(11, fun l => aO #[iV xn, iV xn, iV (elB p.bs b).2.2.1, iV (elB p.bs b).2.2.2.1, iV 0, iV 0] 54)], news := [11], slots := [113] },
                                                  { val := fun _ => .pointer (some ⟨b1, 1, none⟩), slots := [3] },
                                                  { val := fun _ => iV p.near, slots := [115], reads := [0] },
                                                  { val := fun _ => iV wv, slots := [9] },
                                                  { val := fun _ => iV (max 1 wv), slots := [117] },
                                                  { names := [11], val := fun l => .agg #[.slice (some ⟨(l.getD 0 0), 0, none⟩) 1 1, iV p.near, iV (max 1 wv), .slice none 0 0], slots := [114, 116, 118] },
                                                  { names := [17], val := fun l => .pointer (some ⟨(l.getD 0 0), 0, none⟩), upd := [(17, fun l => aO #[.slice none 0 0, iV 0, iV 0, .slice none 0 0] 33)], news := [17] },
                                                  { names := [11], upd := [(17, fun l => aO #[.slice (some ⟨(l.getD 0 0), 0, none⟩) 1 1, iV p.near, iV (max 1 wv), .slice none 0 0] 33)], slots := [15, 119], reads := [17] }] [[], [], [0, 1], [], [3], [], [3, 4, 5], [3, 4, 5, 6], [3, 4, 5, 6, 7], [0, 1, 2, 3, 4, 5, 6, 7, 8], [0, 1, 2, 3, 4, 5, 6, 7, 8, 9], [], [11], [], [13], [0, 1, 2, 3, 4, 5, 6, 7, 8, 9, 10, 11, 12, 13, 14], [], [0, 1, 2, 3, 4, 5, 6, 7, 8, 9, 10, 11, 12, 13, 14, 15, 16]] (by kernel_rfl) (by kernel_rfl) (by kernel_rfl) (by kernel_rfl) [6, 9, 15] [11, 17] (by kernel_rfl)
                                                  ⟨⟨⟨⟨⟨⟨⟨⟨⟨⟨⟨⟨⟨⟨⟨⟨⟨⟨trivial,
                                                  tri_quietW (fun β => []) [] [] (fun β => []) (by kernel_rfl) (fun β extra => by kernel_rfl) (by kernel_rfl) (fun β => trivial)⟩,
                                                  tri_quietW (fun β => []) [] [] (fun β => []) (by kernel_rfl) (fun β extra => by kernel_rfl) (by kernel_rfl) (fun β => trivial)⟩,
                                                  tri_callVW (fun β => .agg #[iV xn, iV xn]) (fun β => by kernel_rfl) 10 (fun β => #[iV xn, iV xn]) (by kernel_rfl) (fun β extra => by kernel_rfl) (fun β => by kernel_rfl) (fun β w1 k1 h1 => span_any xn xn w1)⟩,
                                                  tri_quietW (fun β => []) [] [] (fun β => []) (by kernel_rfl) (fun β extra => by kernel_rfl) (by kernel_rfl) (fun β => trivial)⟩,
                                                  tri_quietW (fun β => []) [0] [0] (fun β => [(pA b1, pA b1)]) (by kernel_rfl) (fun β extra => by kernel_rfl) (by kernel_rfl) (fun β => ⟨rfl, trivial⟩)⟩,
                                                  tri_quietW (fun β => []) [] [] (fun β => []) (by kernel_rfl) (fun β extra => by kernel_rfl) (by kernel_rfl) (fun β => trivial)⟩,
                                                  tri_vVW (fun β => .pointer (some ⟨be, oe + b * 6, none⟩)) (fun β => by kernel_rfl) (fun β => (Instr.indexAt 30 (.slice p.ba p.bs.length p.bc) (iV (b : Int)) >>= fun v => pure (Next.value v))) (by kernel_rfl) (fun β extra => by kernel_rfl) (fun β => by kernel_rfl) (fun β w1 k1 h1 => (by rw [hbe]; exact idx_off (e := 54) (n := 6) (by kernel_rfl) (by kernel_rfl) be oe p.bs.length p.bc .i64 b hlt (oe + b * 6) (by omega) w1))⟩,
                                                  tri_quietW (fun β => []) [] [] (fun β => []) (by kernel_rfl) (fun β extra => by kernel_rfl) (by kernel_rfl) (fun β => trivial)⟩,
                                                  tri_vVW (fun β => .agg #[iV (elB p.bs b).2.2.1, iV (elB p.bs b).2.2.2.1]) (fun β => by kernel_rfl) (fun β => (Instr.loadAt 23 (.pointer (some ⟨be, oe + b * 6 + 2, none⟩)) >>= fun v => pure (Next.value v))) (by kernel_rfl) (fun β extra => by kernel_rfl) (fun β => by kernel_rfl) (fun β w1 k1 h1 => load_in (off := 2) k1 (fun h => h) [iV (elB p.bs b).1, iV (elB p.bs b).2.1, iV (elB p.bs b).2.2.1, iV (elB p.bs b).2.2.2.1, iV (elB p.bs b).2.2.2.2.1, iV (elB p.bs b).2.2.2.2.2] (c6 hc.1 hc.2.1 hc.2.2.1 hc.2.2.2.1 hc.2.2.2.2.1 hc.2.2.2.2.2) (by kernel_rfl))⟩,
                                                  tri_quietW (fun β => []) [] [] (fun β => []) (by kernel_rfl) (fun β extra => by kernel_rfl) (by kernel_rfl) (fun β => trivial)⟩,
                                                  tri_newW 11 (fun β => aO #[iV xn, iV xn, iV (elB p.bs b).2.2.1, iV (elB p.bs b).2.2.2.1, iV 0, iV 0] 54) (fun β b => sV b 1 1) [0] (by kernel_rfl) (fun β extra b => by kernel_rfl) (by kernel_rfl) (fun β b => by kernel_rfl) (fun β b => by kernel_rfl) (fun β b => by kernel_rfl)⟩,
                                                  tri_quietW (fun β => []) [] [] (fun β => []) (by kernel_rfl) (fun β extra => by kernel_rfl) (by kernel_rfl) (fun β => trivial)⟩,
                                                  tri_quietW (fun β => []) [0] [0] (fun β => [(pA b1, pA b1)]) (by kernel_rfl) (fun β extra => by kernel_rfl) (by kernel_rfl) (fun β => ⟨rfl, trivial⟩)⟩,
                                                  tri_quietW (fun β => []) [] [] (fun β => []) (by kernel_rfl) (fun β extra => by kernel_rfl) (by kernel_rfl) (fun β => trivial)⟩,
                                                  tri_quietW (fun β => [(118, iV (max 1 wv))]) [] [] (fun β => [(iV (if wv > 1 then wv else 1), iV (max 1 wv))]) (by kernel_rfl) (fun β extra => by kernel_rfl) (by kernel_rfl) (fun β => ⟨(mx _ _ _), trivial⟩)⟩,
                                                  tri_quietW (fun β => []) [] [] (fun β => []) (by kernel_rfl) (fun β extra => by kernel_rfl) (by kernel_rfl) (fun β => trivial)⟩,
                                                  tri_newW 17 (fun β => aO #[.slice none 0 0, iV 0, iV 0, .slice none 0 0] 33) (fun β b => pA b) [0] (by kernel_rfl) (fun β extra b => by kernel_rfl) (by kernel_rfl) (fun β b => by kernel_rfl) (fun β b => by kernel_rfl) (fun β b => by kernel_rfl)⟩,
                                                  tri_quietW (fun β => []) [0] [0] (fun β => [(.pointer (some ⟨(β 17), 0, none⟩), .pointer (some ⟨(β 17), 0, none⟩))]) (by kernel_rfl) (fun β extra => by kernel_rfl) (by kernel_rfl) (fun β => ⟨rfl, trivial⟩)⟩
                                                  (fun β => ⟨[(6, .bool false), (9, iV wv), (15, .pointer (some ⟨(β 17), 0, none⟩))], [((β 11), aO #[iV xn, iV xn, iV (elB p.bs b).2.2.1, iV (elB p.bs b).2.2.2.1, iV 0, iV 0] 54), ((β 17), aO #[.slice (some ⟨(β 11), 0, none⟩) 1 1, iV p.near, iV (max 1 wv), .slice none 0 0] 33)]⟩) (fun β => by kernel_rfl) (fun β2 => ?_)
                        refine run_auto [(122, iV ((max 1 wv) + 1))] 9 [] [1] [6, 9, 15, 122, 123] [0, 1] (st' := ⟨[(6, .bool false), (9, iV wv), (15, .pointer (some ⟨(β2 17), 0, none⟩)), (122, iV ((max 1 wv) + 1)), (123, iV 0)], [((β2 11), aO #[iV xn, iV xn, iV (elB p.bs b).2.2.1, iV (elB p.bs b).2.2.2.1, iV 0, iV 0] 54), ((β2 17), aO #[.slice (some ⟨(β2 11), 0, none⟩) 1 1, iV p.near, iV (max 1 wv), .slice none 0 0] 33)]⟩) (acc := [(iV (IntKind.i64.wrap ((max 1 wv) + 1)), iV ((max 1 wv) + 1)), (.pointer (some ⟨(β2 17), 0, none⟩), .pointer (some ⟨(β2 17), 0, none⟩))]) (by kernel_rfl) (by kernel_rfl) ⟨(wr (by omega) (by omega)), rfl, trivial⟩ ?_
                        refine run_auto [] 0 [] [] [6, 9, 15, 122, 123] [0, 1] (st' := ⟨[(6, .bool false), (9, iV wv), (15, .pointer (some ⟨(β2 17), 0, none⟩)), (122, iV ((max 1 wv) + 1)), (123, iV 0)], [((β2 11), aO #[iV xn, iV xn, iV (elB p.bs b).2.2.1, iV (elB p.bs b).2.2.2.1, iV 0, iV 0] 54), ((β2 17), aO #[.slice (some ⟨(β2 11), 0, none⟩) 1 1, iV p.near, iV (max 1 wv), .slice none 0 0] 33)]⟩) (acc := []) (by kernel_rfl) (by kernel_rfl) trivial ?_
                        refine run_loop (S := fun (m : Nat) => ⟨[(6, .bool false), (9, iV wv), (15, .pointer (some ⟨(β2 17), 0, none⟩)), (122, iV ((max 1 wv) + 1)), (123, iV (m : Int))], [((β2 11), aO #[iV xn, iV xn, iV (elB p.bs b).2.2.1, iV (elB p.bs b).2.2.2.1, iV 0, iV 0] 54), ((β2 17), aO #[.slice (some ⟨(β2 11), 0, none⟩) 1 1, iV p.near, iV (max 1 wv), .slice none 0 0] 33)]⟩) (fun m => True) (fun m => 62 - m) (0) (by kernel_rfl) (trivial) (by kernel_rfl) (fun m hI0 J0 hJ0 => ?_)
                        cases hd12 : (decide ((m : Int) < ((max 1 wv) + 1))) with
                        | false =>
                          have hp12 := of_decide_eq_false hd12
                          refine run_auto [(124, .bool false)] 10 [false] [1] [6, 9, 144] [0] (st' := ⟨[(6, .bool false), (9, iV wv), (144, .agg #[.slice (some ⟨(β2 11), 0, none⟩) 1 1, iV p.near, iV (max 1 wv), .slice none 0 0])], [((β2 11), aO #[iV xn, iV xn, iV (elB p.bs b).2.2.1, iV (elB p.bs b).2.2.2.1, iV 0, iV 0] 54)]⟩) (acc := [(.pointer (some ⟨(β2 17), 0, none⟩), .pointer (some ⟨(β2 17), 0, none⟩)), (.bool false, .bool false), (.bool (decide ((m : Int) < ((max 1 wv) + 1))), .bool false)]) (by kernel_rfl) (by kernel_rfl) ⟨rfl, rfl, (bo hd12), trivial⟩ ?_
                          refine run_ret1 15 #[.agg #[.slice (some ⟨(β2 11), 0, none⟩) 1 1, iV p.near, iV (max 1 wv), .slice none 0 0], iV 0] (some 145) (.tuple #[iV wv, iV 0]) (by kernel_rfl) (fun w1 k1 h1 => (by have h := When_any (p.al b xn (max 1 wv) (β2 11)) 0 w1 (al_in (by exact (h1 ((β2 11), aO #[iV xn, iV xn, iV (elB p.bs b).2.2.1, iV (elB p.bs b).2.2.2.1, iV 0, iV 0] 54) (List.mem_of_getElem? (i := 0) (by kernel_rfl))))); rw [show whenR (p.al b xn (max 1 wv) (β2 11)).n 0 = .inr wv from hwn] at h; exact h)) ?_
                          refine run_auto [(149, .bool true), (153, .bool true)] 16 [] [] [6, 155] [] (st' := ⟨[(6, .bool false), (155, .bool true)], []⟩) (acc := [(.bool (wv == wv), .bool true), (.bool true, .bool true)]) (by kernel_rfl) (by kernel_rfl) ⟨(bo (by simp)), rfl, trivial⟩ ?_
                          refine run_ret1 19 #[] (some 156) (.bool true) (by kernel_rfl) (fun w1 k1 h1 => alive_any w1) ?_
                          refine run_auto [] 3 [] [] [6] [] (st' := ⟨[(6, .bool true)], []⟩) (acc := []) (by kernel_rfl) (by kernel_rfl) trivial ?_
                          refine run_end (fn := f7) rfl (Nat.le_refl _) (by kernel_rfl) [] [.bool true] (e := []) (by kernel_rfl) trivial (fun w1 k1 h1 => ?_)
                          exact ⟨rfl, k1.keeps (fun _ h => h)⟩
                        | true =>
                          have hp12 := of_decide_eq_true hd12
                          obtain ⟨jv, hjv⟩ : ∃ x, (p.n.al b xn (max 1 wv)).judge 0 m = x := ⟨_, rfl⟩
                          have hjw := al_judge hF hbl hx0 hlw hWwv hjv
                          refine run_auto [(124, .bool true)] 18 [true] [1] [6, 9, 15, 122, 123, 16, 127, 128] [0, 1] (st' := ⟨[(6, .bool false), (9, iV wv), (15, .pointer (some ⟨(β2 17), 0, none⟩)), (122, iV ((max 1 wv) + 1)), (123, iV (m : Int)), (16, iV (m : Int)), (127, .agg #[.slice (some ⟨(β2 11), 0, none⟩) 1 1, iV p.near, iV (max 1 wv), .slice none 0 0]), (128, iV (m : Int))], [((β2 11), aO #[iV xn, iV xn, iV (elB p.bs b).2.2.1, iV (elB p.bs b).2.2.2.1, iV 0, iV 0] 54), ((β2 17), aO #[.slice (some ⟨(β2 11), 0, none⟩) 1 1, iV p.near, iV (max 1 wv), .slice none 0 0] 33)]⟩) (acc := [(.pointer (some ⟨(β2 17), 0, none⟩), .pointer (some ⟨(β2 17), 0, none⟩)), (.bool true, .bool true), (.bool (decide ((m : Int) < ((max 1 wv) + 1))), .bool true)]) (by kernel_rfl) (by kernel_rfl) ⟨rfl, rfl, (bo hd12), trivial⟩ ?_
                          refine run_ret1 14 #[.agg #[.slice (some ⟨(β2 11), 0, none⟩) 1 1, iV p.near, iV (max 1 wv), .slice none 0 0], iV 0, iV (m : Int)] (some 129) (.tuple #[iV jv, iV 0]) (by kernel_rfl) (fun w1 k1 h1 => (by have h := Settled_any (p.al b xn (max 1 wv) (β2 11)) 0 (m : Int) w1 (al_in (by exact (h1 ((β2 11), aO #[iV xn, iV xn, iV (elB p.bs b).2.2.1, iV (elB p.bs b).2.2.2.1, iV 0, iV 0] 54) (List.mem_of_getElem? (i := 0) (by kernel_rfl))))); rw [show setR (p.al b xn (max 1 wv) (β2 11)).n 0 (m : Int) = .inr jv from (set_is (s := p.n.al b xn (max 1 wv)) (b := 0) hokA (by show 0 < 1; omega) (by show (m : Int) ≤ max 1 wv; omega)).trans (congrArg _ hjv)] at h; exact h)) ?_
                          cases hd13 : (jv == 2) with
                          | false =>
                            have hp13 : ¬ jv = 2 := by simpa using hd13
                            cases hd14 : (decide (wv ≤ (m : Int))) with
                            | false =>
                              have hp14 := of_decide_eq_false hd14
                              refine run_auto [(133, .bool false), (136, .bool false), (139, .bool false), (140, .bool false), (142, iV ((m + 1 : Nat) : Int))] 26 [false] [] [6, 9, 15, 122, 123] [0, 1] (st' := ⟨[(6, .bool false), (9, iV wv), (15, .pointer (some ⟨(β2 17), 0, none⟩)), (122, iV ((max 1 wv) + 1)), (123, iV ((m + 1 : Nat) : Int))], [((β2 11), aO #[iV xn, iV xn, iV (elB p.bs b).2.2.1, iV (elB p.bs b).2.2.2.1, iV 0, iV 0] 54), ((β2 17), aO #[.slice (some ⟨(β2 11), 0, none⟩) 1 1, iV p.near, iV (max 1 wv), .slice none 0 0] 33)]⟩) (acc := [(iV (IntKind.i64.wrap ((m : Int) + 1)), iV ((m + 1 : Nat) : Int)), (.bool false, .bool false), (.bool false, .bool false), (.bool (decide (wv ≤ (m : Int))), .bool false), (.bool (jv == 2), .bool false), (.bool false, .bool false)]) (by kernel_rfl) (by kernel_rfl) ⟨(wr (by omega) (by omega)), rfl, rfl, (bo hd14), (bo hd13), rfl, trivial⟩ ?_
                              exact run_round (by kernel_rfl) (hJ0 (m + 1) (trivial) (by omega))
                            | true =>
                              have hp14 := of_decide_eq_true hd14
                              refine run_auto [(133, .bool false), (136, .bool false), (139, .bool true), (140, .bool true)] 24 [true] [] [6, 9, 15, 122, 123] [0, 1] (st' := ⟨[(6, .bool false), (9, iV wv), (15, .pointer (some ⟨(β2 17), 0, none⟩)), (122, iV ((max 1 wv) + 1)), (123, iV (m : Int))], [((β2 11), aO #[iV xn, iV xn, iV (elB p.bs b).2.2.1, iV (elB p.bs b).2.2.2.1, iV 0, iV 0] 54), ((β2 17), aO #[.slice (some ⟨(β2 11), 0, none⟩) 1 1, iV p.near, iV (max 1 wv), .slice none 0 0] 33)]⟩) (acc := [(.bool true, .bool true), (.bool true, .bool true), (.bool (decide (wv ≤ (m : Int))), .bool true), (.bool (jv == 2), .bool false), (.bool false, .bool false)]) (by kernel_rfl) (by kernel_rfl) ⟨rfl, rfl, (bo hd14), (bo hd13), rfl, trivial⟩ ?_
                              refine run_end (fn := f7) rfl (Nat.le_refl _) (by kernel_rfl) [] [.bool false] (e := []) (by kernel_rfl) trivial (fun w1 k1 h1 => ?_)
                              exfalso
                              omega
                          | true =>
                            have hp13 : jv = 2 := by simpa using hd13
                            cases hd14 : (decide (wv ≤ (m : Int))) with
                            | false =>
                              have hp14 := of_decide_eq_false hd14
                              refine run_auto [(133, .bool false), (136, .bool true), (139, .bool false), (140, .bool true)] 24 [true] [] [6, 9, 15, 122, 123] [0, 1] (st' := ⟨[(6, .bool false), (9, iV wv), (15, .pointer (some ⟨(β2 17), 0, none⟩)), (122, iV ((max 1 wv) + 1)), (123, iV (m : Int))], [((β2 11), aO #[iV xn, iV xn, iV (elB p.bs b).2.2.1, iV (elB p.bs b).2.2.2.1, iV 0, iV 0] 54), ((β2 17), aO #[.slice (some ⟨(β2 11), 0, none⟩) 1 1, iV p.near, iV (max 1 wv), .slice none 0 0] 33)]⟩) (acc := [(.bool true, .bool true), (.bool true, .bool true), (.bool (decide (wv ≤ (m : Int))), .bool false), (.bool (jv == 2), .bool true), (.bool false, .bool false)]) (by kernel_rfl) (by kernel_rfl) ⟨rfl, rfl, (bo hd14), (bo hd13), rfl, trivial⟩ ?_
                              refine run_end (fn := f7) rfl (Nat.le_refl _) (by kernel_rfl) [] [.bool false] (e := []) (by kernel_rfl) trivial (fun w1 k1 h1 => ?_)
                              exfalso
                              omega
                            | true =>
                              have hp14 := of_decide_eq_true hd14
                              refine run_auto [(133, .bool false), (136, .bool true), (139, .bool true), (140, .bool false), (142, iV ((m + 1 : Nat) : Int))] 26 [false] [] [6, 9, 15, 122, 123] [0, 1] (st' := ⟨[(6, .bool false), (9, iV wv), (15, .pointer (some ⟨(β2 17), 0, none⟩)), (122, iV ((max 1 wv) + 1)), (123, iV ((m + 1 : Nat) : Int))], [((β2 11), aO #[iV xn, iV xn, iV (elB p.bs b).2.2.1, iV (elB p.bs b).2.2.2.1, iV 0, iV 0] 54), ((β2 17), aO #[.slice (some ⟨(β2 11), 0, none⟩) 1 1, iV p.near, iV (max 1 wv), .slice none 0 0] 33)]⟩) (acc := [(iV (IntKind.i64.wrap ((m : Int) + 1)), iV ((m + 1 : Nat) : Int)), (.bool false, .bool false), (.bool false, .bool false), (.bool (decide (wv ≤ (m : Int))), .bool true), (.bool (jv == 2), .bool true), (.bool false, .bool false)]) (by kernel_rfl) (by kernel_rfl) ⟨(wr (by omega) (by omega)), rfl, rfl, (bo hd14), (bo hd13), rfl, trivial⟩ ?_
                              exact run_round (by kernel_rfl) (hJ0 (m + 1) (trivial) (by omega))
                      | true =>
                        have hp11 := of_decide_eq_true hd11
                        refine run_auto [(66, .bool false), (69, .bool false), (73, .bool false), (77, .bool false), (82, .bool false), (87, .bool false), (91, .bool false), (94, iV (-xn)), (95, iV (max xn (-xn))), (98, .bool false), (99, .bool false), (102, .bool true)] 57 [false, true] [0] [3, 6, 7, 8, 9] [0] (st' := ⟨[(3, pA b1), (6, .bool false), (7, iV (b : Int)), (8, iV xn), (9, iV wv)], [(b1, aO #[.slice p.ba p.bs.length p.bc, iV p.near, iV p.last, .slice p.ta p.ts.length p.tc] 33)]⟩) (acc := [(.bool true, .bool true), (.bool (decide (60 < wv)), .bool true), (.bool false, .bool false), (.bool false, .bool false), (.bool (decide ((max xn (-xn)) ≤ p.near)), .bool false), (pA b1, pA b1), (iV (if (-xn) > xn then (-xn) else xn), iV (max xn (-xn))), (iV (IntKind.i64.wrap (0 - xn)), iV (-xn)), (.bool (wv == 0), .bool false), (.bool (decide (wv < lv)), .bool false), (.bool (ov != wv), .bool false), (.bool (decide (wv < 0)), .bool false), (.bool (le_ != 0), .bool false), (.bool (od != 0), .bool false), (.bool (we != 0), .bool false)]) (by kernel_rfl) (by kernel_rfl) ⟨rfl, (bo hd11), rfl, rfl, (bo hd10), rfl, (mx _ _ _), ((wr (by omega) (by omega)).trans (io (by omega))), (bo hd9), (bo hd8), (bo hd7), (bo hd6), (bo hd5), (bo hd4), (bo hd3), trivial⟩ ?_
                        refine run_ret1 19 #[] (some 103) (.bool true) (by kernel_rfl) (fun w1 k1 h1 => alive_any w1) ?_
                        refine run_auto [] 2 [] [] [3, 6, 7, 8, 9] [0] (st' := ⟨[(3, pA b1), (6, .bool true), (7, iV (b : Int)), (8, iV xn), (9, iV wv)], [(b1, aO #[.slice p.ba p.bs.length p.bc, iV p.near, iV p.last, .slice p.ta p.ts.length p.tc] 33)]⟩) (acc := []) (by kernel_rfl) (by kernel_rfl) trivial ?_
                        refine run_end (fn := f7) rfl (Nat.le_refl _) (by kernel_rfl) [] [.bool true] (e := []) (by kernel_rfl) trivial (fun w1 k1 h1 => ?_)
                        exact ⟨rfl, k1.keeps (fun _ h => h)⟩
                    | true =>
                      have hp10 := of_decide_eq_true hd10
                      refine run_auto [(66, .bool false), (69, .bool false), (73, .bool false), (77, .bool false), (82, .bool false), (87, .bool false), (91, .bool false), (94, iV (-xn)), (95, iV (max xn (-xn))), (98, .bool true), (99, .bool true)] 51 [true] [0] [3, 6, 7, 8, 9] [0] (st' := ⟨[(3, pA b1), (6, .bool false), (7, iV (b : Int)), (8, iV xn), (9, iV wv)], [(b1, aO #[.slice p.ba p.bs.length p.bc, iV p.near, iV p.last, .slice p.ta p.ts.length p.tc] 33)]⟩) (acc := [(.bool true, .bool true), (.bool true, .bool true), (.bool (decide ((max xn (-xn)) ≤ p.near)), .bool true), (pA b1, pA b1), (iV (if (-xn) > xn then (-xn) else xn), iV (max xn (-xn))), (iV (IntKind.i64.wrap (0 - xn)), iV (-xn)), (.bool (wv == 0), .bool false), (.bool (decide (wv < lv)), .bool false), (.bool (ov != wv), .bool false), (.bool (decide (wv < 0)), .bool false), (.bool (le_ != 0), .bool false), (.bool (od != 0), .bool false), (.bool (we != 0), .bool false)]) (by kernel_rfl) (by kernel_rfl) ⟨rfl, rfl, (bo hd10), rfl, (mx _ _ _), ((wr (by omega) (by omega)).trans (io (by omega))), (bo hd9), (bo hd8), (bo hd7), (bo hd6), (bo hd5), (bo hd4), (bo hd3), trivial⟩ ?_
                      refine run_end (fn := f7) rfl (Nat.le_refl _) (by kernel_rfl) [] [.bool false] (e := []) (by kernel_rfl) trivial (fun w1 k1 h1 => ?_)
                      exfalso
                      omega
                  | true =>
                    have hp9 : wv = 0 := by simpa using hd9
                    cases hd10 : (decide ((max xn (-xn)) ≤ p.near)) with
                    | false =>
                      have hp10 := of_decide_eq_false hd10
                      refine run_auto [(66, .bool false), (69, .bool false), (73, .bool false), (77, .bool false), (82, .bool false), (87, .bool false), (91, .bool true), (94, iV (-xn)), (95, iV (max xn (-xn))), (98, .bool false), (99, .bool true)] 51 [true] [0] [3, 6, 7, 8, 9] [0] (st' := ⟨[(3, pA b1), (6, .bool false), (7, iV (b : Int)), (8, iV xn), (9, iV wv)], [(b1, aO #[.slice p.ba p.bs.length p.bc, iV p.near, iV p.last, .slice p.ta p.ts.length p.tc] 33)]⟩) (acc := [(.bool true, .bool true), (.bool true, .bool true), (.bool (decide ((max xn (-xn)) ≤ p.near)), .bool false), (pA b1, pA b1), (iV (if (-xn) > xn then (-xn) else xn), iV (max xn (-xn))), (iV (IntKind.i64.wrap (0 - xn)), iV (-xn)), (.bool (wv == 0), .bool true), (.bool (decide (wv < lv)), .bool false), (.bool (ov != wv), .bool false), (.bool (decide (wv < 0)), .bool false), (.bool (le_ != 0), .bool false), (.bool (od != 0), .bool false), (.bool (we != 0), .bool false)]) (by kernel_rfl) (by kernel_rfl) ⟨rfl, rfl, (bo hd10), rfl, (mx _ _ _), ((wr (by omega) (by omega)).trans (io (by omega))), (bo hd9), (bo hd8), (bo hd7), (bo hd6), (bo hd5), (bo hd4), (bo hd3), trivial⟩ ?_
                      refine run_end (fn := f7) rfl (Nat.le_refl _) (by kernel_rfl) [] [.bool false] (e := []) (by kernel_rfl) trivial (fun w1 k1 h1 => ?_)
                      exfalso
                      omega
                    | true =>
                      have hp10 := of_decide_eq_true hd10
                      cases hd11 : (decide (60 < wv)) with
                      | false =>
                        have hp11 := of_decide_eq_false hd11
                        have hlw : 1 ≤ max 1 wv ∧ max 1 wv ≤ 60 := by omega
                        have hokA := al_ok hF hbl hx0 hlw
                        have hwn := al_when hF hbl hx0 hlw hWwv (by omega)
                        refine run_auto [(66, .bool false), (69, .bool false), (73, .bool false), (77, .bool false), (82, .bool false), (87, .bool false), (91, .bool true), (94, iV (-xn)), (95, iV (max xn (-xn))), (98, .bool true), (99, .bool false), (102, .bool false)] 57 [false, false] [0] [3, 6, 7, 8, 9] [0] (st' := ⟨[(3, pA b1), (6, .bool false), (7, iV (b : Int)), (8, iV xn), (9, iV wv)], [(b1, aO #[.slice p.ba p.bs.length p.bc, iV p.near, iV p.last, .slice p.ta p.ts.length p.tc] 33)]⟩) (acc := [(.bool false, .bool false), (.bool (decide (60 < wv)), .bool false), (.bool false, .bool false), (.bool false, .bool false), (.bool (decide ((max xn (-xn)) ≤ p.near)), .bool true), (pA b1, pA b1), (iV (if (-xn) > xn then (-xn) else xn), iV (max xn (-xn))), (iV (IntKind.i64.wrap (0 - xn)), iV (-xn)), (.bool (wv == 0), .bool true), (.bool (decide (wv < lv)), .bool false), (.bool (ov != wv), .bool false), (.bool (decide (wv < 0)), .bool false), (.bool (le_ != 0), .bool false), (.bool (od != 0), .bool false), (.bool (we != 0), .bool false)]) (by kernel_rfl) (by kernel_rfl) ⟨rfl, (bo hd11), rfl, rfl, (bo hd10), rfl, (mx _ _ _), ((wr (by omega) (by omega)).trans (io (by omega))), (bo hd9), (bo hd8), (bo hd7), (bo hd6), (bo hd5), (bo hd4), (bo hd3), trivial⟩ ?_
                        refine drawW 18 [{ val := fun _ => iV xn, slots := [8] },
                                                  { val := fun _ => iV xn, slots := [8] },
                                                  { val := fun _ => .agg #[iV xn, iV xn], slots := [104, 105] },
                                                  { val := fun _ => pA b1, slots := [3] },
                                                  { val := fun _ => .slice p.ba p.bs.length p.bc, slots := [107], reads := [0] },
                                                  { val := fun _ => iV (b : Int), slots := [7] },
                                                  { val := fun _ => .pointer (some ⟨be, oe + b * 6, none⟩), slots := [108, 109] },
                                                  { val := fun _ => .pointer (some ⟨be, oe + b * 6 + 2, none⟩), slots := [110] },
                                                  { val := fun _ => .agg #[iV (elB p.bs b).2.2.1, iV (elB p.bs b).2.2.2.1], slots := [111] },
                                                  { val := fun _ => .agg #[iV xn, iV xn, iV (elB p.bs b).2.2.1, iV (elB p.bs b).2.2.2.1, iV 0, iV 0], slots := [106, 112] },
                                                  { names := [11], val := fun l => .slice (some ⟨(l.getD 0 0), 0, none⟩) 1 1, upd := [(11, fun l => aO #[iV xn, iV xn, iV (elB p.bs b).2.2.1, iV (elB p.bs b).2.2.2.1, iV 0, iV 0] 54)], news := [11], slots := [113] },
                                                  { val := fun _ => .pointer (some ⟨b1, 1, none⟩), slots := [3] },
                                                  { val := fun _ => iV p.near, slots := [115], reads := [0] },
                                                  { val := fun _ => iV wv, slots := [9] },
                                                  { val := fun _ => iV (max 1 wv), slots := [117] },
                                                  { names := [11], val := fun l => .agg #[.slice (some ⟨(l.getD 0 0), 0, none⟩) 1 1, iV p.near, iV (max 1 wv), .slice none 0 0], slots := [114, 116, 118] },
                                                  { names := [17], val := fun l => .pointer (some ⟨(l.getD 0 0), 0, none⟩), upd := [(17, fun l => aO #[.slice none 0 0, iV 0, iV 0, .slice none 0 0] 33)], news := [17] },
                                                  { names := [11], upd := [(17, fun l => aO #[.slice (some ⟨(l.getD 0 0), 0, none⟩) 1 1, iV p.near, iV (max 1 wv), .slice none 0 0] 33)], slots := [15, 119], reads := [17] }] [[], [], [0, 1], [], [3], [], [3, 4, 5], [3, 4, 5, 6], [3, 4, 5, 6, 7], [0, 1, 2, 3, 4, 5, 6, 7, 8], [0, 1, 2, 3, 4, 5, 6, 7, 8, 9], [], [11], [], [13], [0, 1, 2, 3, 4, 5, 6, 7, 8, 9, 10, 11, 12, 13, 14], [], [0, 1, 2, 3, 4, 5, 6, 7, 8, 9, 10, 11, 12, 13, 14, 15, 16]] (by kernel_rfl) (by kernel_rfl) (by kernel_rfl) (by kernel_rfl) [6, 9, 15] [11, 17] (by kernel_rfl)
                                                  ⟨⟨⟨⟨⟨⟨⟨⟨⟨⟨⟨⟨⟨⟨⟨⟨⟨⟨trivial,
                                                  tri_quietW (fun β => []) [] [] (fun β => []) (by kernel_rfl) (fun β extra => by kernel_rfl) (by kernel_rfl) (fun β => trivial)⟩,
                                                  tri_quietW (fun β => []) [] [] (fun β => []) (by kernel_rfl) (fun β extra => by kernel_rfl) (by kernel_rfl) (fun β => trivial)⟩,
                                                  tri_callVW (fun β => .agg #[iV xn, iV xn]) (fun β => by kernel_rfl) 10 (fun β => #[iV xn, iV xn]) (by kernel_rfl) (fun β extra => by kernel_rfl) (fun β => by kernel_rfl) (fun β w1 k1 h1 => span_any xn xn w1)⟩,
                                                  tri_quietW (fun β => []) [] [] (fun β => []) (by kernel_rfl) (fun β extra => by kernel_rfl) (by kernel_rfl) (fun β => trivial)⟩,
                                                  tri_quietW (fun β => []) [0] [0] (fun β => [(pA b1, pA b1)]) (by kernel_rfl) (fun β extra => by kernel_rfl) (by kernel_rfl) (fun β => ⟨rfl, trivial⟩)⟩,
                                                  tri_quietW (fun β => []) [] [] (fun β => []) (by kernel_rfl) (fun β extra => by kernel_rfl) (by kernel_rfl) (fun β => trivial)⟩,
                                                  tri_vVW (fun β => .pointer (some ⟨be, oe + b * 6, none⟩)) (fun β => by kernel_rfl) (fun β => (Instr.indexAt 30 (.slice p.ba p.bs.length p.bc) (iV (b : Int)) >>= fun v => pure (Next.value v))) (by kernel_rfl) (fun β extra => by kernel_rfl) (fun β => by kernel_rfl) (fun β w1 k1 h1 => (by rw [hbe]; exact idx_off (e := 54) (n := 6) (by kernel_rfl) (by kernel_rfl) be oe p.bs.length p.bc .i64 b hlt (oe + b * 6) (by omega) w1))⟩,
                                                  tri_quietW (fun β => []) [] [] (fun β => []) (by kernel_rfl) (fun β extra => by kernel_rfl) (by kernel_rfl) (fun β => trivial)⟩,
                                                  tri_vVW (fun β => .agg #[iV (elB p.bs b).2.2.1, iV (elB p.bs b).2.2.2.1]) (fun β => by kernel_rfl) (fun β => (Instr.loadAt 23 (.pointer (some ⟨be, oe + b * 6 + 2, none⟩)) >>= fun v => pure (Next.value v))) (by kernel_rfl) (fun β extra => by kernel_rfl) (fun β => by kernel_rfl) (fun β w1 k1 h1 => load_in (off := 2) k1 (fun h => h) [iV (elB p.bs b).1, iV (elB p.bs b).2.1, iV (elB p.bs b).2.2.1, iV (elB p.bs b).2.2.2.1, iV (elB p.bs b).2.2.2.2.1, iV (elB p.bs b).2.2.2.2.2] (c6 hc.1 hc.2.1 hc.2.2.1 hc.2.2.2.1 hc.2.2.2.2.1 hc.2.2.2.2.2) (by kernel_rfl))⟩,
                                                  tri_quietW (fun β => []) [] [] (fun β => []) (by kernel_rfl) (fun β extra => by kernel_rfl) (by kernel_rfl) (fun β => trivial)⟩,
                                                  tri_newW 11 (fun β => aO #[iV xn, iV xn, iV (elB p.bs b).2.2.1, iV (elB p.bs b).2.2.2.1, iV 0, iV 0] 54) (fun β b => sV b 1 1) [0] (by kernel_rfl) (fun β extra b => by kernel_rfl) (by kernel_rfl) (fun β b => by kernel_rfl) (fun β b => by kernel_rfl) (fun β b => by kernel_rfl)⟩,
                                                  tri_quietW (fun β => []) [] [] (fun β => []) (by kernel_rfl) (fun β extra => by kernel_rfl) (by kernel_rfl) (fun β => trivial)⟩,
                                                  tri_quietW (fun β => []) [0] [0] (fun β => [(pA b1, pA b1)]) (by kernel_rfl) (fun β extra => by kernel_rfl) (by kernel_rfl) (fun β => ⟨rfl, trivial⟩)⟩,
                                                  tri_quietW (fun β => []) [] [] (fun β => []) (by kernel_rfl) (fun β extra => by kernel_rfl) (by kernel_rfl) (fun β => trivial)⟩,
                                                  tri_quietW (fun β => [(118, iV (max 1 wv))]) [] [] (fun β => [(iV (if wv > 1 then wv else 1), iV (max 1 wv))]) (by kernel_rfl) (fun β extra => by kernel_rfl) (by kernel_rfl) (fun β => ⟨(mx _ _ _), trivial⟩)⟩,
                                                  tri_quietW (fun β => []) [] [] (fun β => []) (by kernel_rfl) (fun β extra => by kernel_rfl) (by kernel_rfl) (fun β => trivial)⟩,
                                                  tri_newW 17 (fun β => aO #[.slice none 0 0, iV 0, iV 0, .slice none 0 0] 33) (fun β b => pA b) [0] (by kernel_rfl) (fun β extra b => by kernel_rfl) (by kernel_rfl) (fun β b => by kernel_rfl) (fun β b => by kernel_rfl) (fun β b => by kernel_rfl)⟩,
                                                  tri_quietW (fun β => []) [0] [0] (fun β => [(.pointer (some ⟨(β 17), 0, none⟩), .pointer (some ⟨(β 17), 0, none⟩))]) (by kernel_rfl) (fun β extra => by kernel_rfl) (by kernel_rfl) (fun β => ⟨rfl, trivial⟩)⟩
                                                  (fun β => ⟨[(6, .bool false), (9, iV wv), (15, .pointer (some ⟨(β 17), 0, none⟩))], [((β 11), aO #[iV xn, iV xn, iV (elB p.bs b).2.2.1, iV (elB p.bs b).2.2.2.1, iV 0, iV 0] 54), ((β 17), aO #[.slice (some ⟨(β 11), 0, none⟩) 1 1, iV p.near, iV (max 1 wv), .slice none 0 0] 33)]⟩) (fun β => by kernel_rfl) (fun β2 => ?_)
                        refine run_auto [(122, iV ((max 1 wv) + 1))] 9 [] [1] [6, 9, 15, 122, 123] [0, 1] (st' := ⟨[(6, .bool false), (9, iV wv), (15, .pointer (some ⟨(β2 17), 0, none⟩)), (122, iV ((max 1 wv) + 1)), (123, iV 0)], [((β2 11), aO #[iV xn, iV xn, iV (elB p.bs b).2.2.1, iV (elB p.bs b).2.2.2.1, iV 0, iV 0] 54), ((β2 17), aO #[.slice (some ⟨(β2 11), 0, none⟩) 1 1, iV p.near, iV (max 1 wv), .slice none 0 0] 33)]⟩) (acc := [(iV (IntKind.i64.wrap ((max 1 wv) + 1)), iV ((max 1 wv) + 1)), (.pointer (some ⟨(β2 17), 0, none⟩), .pointer (some ⟨(β2 17), 0, none⟩))]) (by kernel_rfl) (by kernel_rfl) ⟨(wr (by omega) (by omega)), rfl, trivial⟩ ?_
                        refine run_auto [] 0 [] [] [6, 9, 15, 122, 123] [0, 1] (st' := ⟨[(6, .bool false), (9, iV wv), (15, .pointer (some ⟨(β2 17), 0, none⟩)), (122, iV ((max 1 wv) + 1)), (123, iV 0)], [((β2 11), aO #[iV xn, iV xn, iV (elB p.bs b).2.2.1, iV (elB p.bs b).2.2.2.1, iV 0, iV 0] 54), ((β2 17), aO #[.slice (some ⟨(β2 11), 0, none⟩) 1 1, iV p.near, iV (max 1 wv), .slice none 0 0] 33)]⟩) (acc := []) (by kernel_rfl) (by kernel_rfl) trivial ?_
                        refine run_loop (S := fun (m : Nat) => ⟨[(6, .bool false), (9, iV wv), (15, .pointer (some ⟨(β2 17), 0, none⟩)), (122, iV ((max 1 wv) + 1)), (123, iV (m : Int))], [((β2 11), aO #[iV xn, iV xn, iV (elB p.bs b).2.2.1, iV (elB p.bs b).2.2.2.1, iV 0, iV 0] 54), ((β2 17), aO #[.slice (some ⟨(β2 11), 0, none⟩) 1 1, iV p.near, iV (max 1 wv), .slice none 0 0] 33)]⟩) (fun m => True) (fun m => 62 - m) (0) (by kernel_rfl) (trivial) (by kernel_rfl) (fun m hI0 J0 hJ0 => ?_)
                        cases hd12 : (decide ((m : Int) < ((max 1 wv) + 1))) with
                        | false =>
                          have hp12 := of_decide_eq_false hd12
                          refine run_auto [(124, .bool false)] 10 [false] [1] [6, 9, 144] [0] (st' := ⟨[(6, .bool false), (9, iV wv), (144, .agg #[.slice (some ⟨(β2 11), 0, none⟩) 1 1, iV p.near, iV (max 1 wv), .slice none 0 0])], [((β2 11), aO #[iV xn, iV xn, iV (elB p.bs b).2.2.1, iV (elB p.bs b).2.2.2.1, iV 0, iV 0] 54)]⟩) (acc := [(.pointer (some ⟨(β2 17), 0, none⟩), .pointer (some ⟨(β2 17), 0, none⟩)), (.bool false, .bool false), (.bool (decide ((m : Int) < ((max 1 wv) + 1))), .bool false)]) (by kernel_rfl) (by kernel_rfl) ⟨rfl, rfl, (bo hd12), trivial⟩ ?_
                          refine run_ret1 15 #[.agg #[.slice (some ⟨(β2 11), 0, none⟩) 1 1, iV p.near, iV (max 1 wv), .slice none 0 0], iV 0] (some 145) (.tuple #[iV wv, iV 0]) (by kernel_rfl) (fun w1 k1 h1 => (by have h := When_any (p.al b xn (max 1 wv) (β2 11)) 0 w1 (al_in (by exact (h1 ((β2 11), aO #[iV xn, iV xn, iV (elB p.bs b).2.2.1, iV (elB p.bs b).2.2.2.1, iV 0, iV 0] 54) (List.mem_of_getElem? (i := 0) (by kernel_rfl))))); rw [show whenR (p.al b xn (max 1 wv) (β2 11)).n 0 = .inr wv from hwn] at h; exact h)) ?_
                          refine run_auto [(149, .bool true), (153, .bool true)] 16 [] [] [6, 155] [] (st' := ⟨[(6, .bool false), (155, .bool true)], []⟩) (acc := [(.bool (wv == wv), .bool true), (.bool true, .bool true)]) (by kernel_rfl) (by kernel_rfl) ⟨(bo (by simp)), rfl, trivial⟩ ?_
                          refine run_ret1 19 #[] (some 156) (.bool true) (by kernel_rfl) (fun w1 k1 h1 => alive_any w1) ?_
                          refine run_auto [] 3 [] [] [6] [] (st' := ⟨[(6, .bool true)], []⟩) (acc := []) (by kernel_rfl) (by kernel_rfl) trivial ?_
                          refine run_end (fn := f7) rfl (Nat.le_refl _) (by kernel_rfl) [] [.bool true] (e := []) (by kernel_rfl) trivial (fun w1 k1 h1 => ?_)
                          exact ⟨rfl, k1.keeps (fun _ h => h)⟩
                        | true =>
                          have hp12 := of_decide_eq_true hd12
                          obtain ⟨jv, hjv⟩ : ∃ x, (p.n.al b xn (max 1 wv)).judge 0 m = x := ⟨_, rfl⟩
                          have hjw := al_judge hF hbl hx0 hlw hWwv hjv
                          refine run_auto [(124, .bool true)] 18 [true] [1] [6, 9, 15, 122, 123, 16, 127, 128] [0, 1] (st' := ⟨[(6, .bool false), (9, iV wv), (15, .pointer (some ⟨(β2 17), 0, none⟩)), (122, iV ((max 1 wv) + 1)), (123, iV (m : Int)), (16, iV (m : Int)), (127, .agg #[.slice (some ⟨(β2 11), 0, none⟩) 1 1, iV p.near, iV (max 1 wv), .slice none 0 0]), (128, iV (m : Int))], [((β2 11), aO #[iV xn, iV xn, iV (elB p.bs b).2.2.1, iV (elB p.bs b).2.2.2.1, iV 0, iV 0] 54), ((β2 17), aO #[.slice (some ⟨(β2 11), 0, none⟩) 1 1, iV p.near, iV (max 1 wv), .slice none 0 0] 33)]⟩) (acc := [(.pointer (some ⟨(β2 17), 0, none⟩), .pointer (some ⟨(β2 17), 0, none⟩)), (.bool true, .bool true), (.bool (decide ((m : Int) < ((max 1 wv) + 1))), .bool true)]) (by kernel_rfl) (by kernel_rfl) ⟨rfl, rfl, (bo hd12), trivial⟩ ?_
                          refine run_ret1 14 #[.agg #[.slice (some ⟨(β2 11), 0, none⟩) 1 1, iV p.near, iV (max 1 wv), .slice none 0 0], iV 0, iV (m : Int)] (some 129) (.tuple #[iV jv, iV 0]) (by kernel_rfl) (fun w1 k1 h1 => (by have h := Settled_any (p.al b xn (max 1 wv) (β2 11)) 0 (m : Int) w1 (al_in (by exact (h1 ((β2 11), aO #[iV xn, iV xn, iV (elB p.bs b).2.2.1, iV (elB p.bs b).2.2.2.1, iV 0, iV 0] 54) (List.mem_of_getElem? (i := 0) (by kernel_rfl))))); rw [show setR (p.al b xn (max 1 wv) (β2 11)).n 0 (m : Int) = .inr jv from (set_is (s := p.n.al b xn (max 1 wv)) (b := 0) hokA (by show 0 < 1; omega) (by show (m : Int) ≤ max 1 wv; omega)).trans (congrArg _ hjv)] at h; exact h)) ?_
                          cases hd13 : (jv == 2) with
                          | false =>
                            have hp13 : ¬ jv = 2 := by simpa using hd13
                            cases hd14 : (decide (wv ≤ (m : Int))) with
                            | false =>
                              have hp14 := of_decide_eq_false hd14
                              refine run_auto [(133, .bool false), (136, .bool false), (139, .bool false), (140, .bool false), (142, iV ((m + 1 : Nat) : Int))] 26 [false] [] [6, 9, 15, 122, 123] [0, 1] (st' := ⟨[(6, .bool false), (9, iV wv), (15, .pointer (some ⟨(β2 17), 0, none⟩)), (122, iV ((max 1 wv) + 1)), (123, iV ((m + 1 : Nat) : Int))], [((β2 11), aO #[iV xn, iV xn, iV (elB p.bs b).2.2.1, iV (elB p.bs b).2.2.2.1, iV 0, iV 0] 54), ((β2 17), aO #[.slice (some ⟨(β2 11), 0, none⟩) 1 1, iV p.near, iV (max 1 wv), .slice none 0 0] 33)]⟩) (acc := [(iV (IntKind.i64.wrap ((m : Int) + 1)), iV ((m + 1 : Nat) : Int)), (.bool false, .bool false), (.bool false, .bool false), (.bool (decide (wv ≤ (m : Int))), .bool false), (.bool (jv == 2), .bool false), (.bool false, .bool false)]) (by kernel_rfl) (by kernel_rfl) ⟨(wr (by omega) (by omega)), rfl, rfl, (bo hd14), (bo hd13), rfl, trivial⟩ ?_
                              exact run_round (by kernel_rfl) (hJ0 (m + 1) (trivial) (by omega))
                            | true =>
                              have hp14 := of_decide_eq_true hd14
                              refine run_auto [(133, .bool false), (136, .bool false), (139, .bool true), (140, .bool true)] 24 [true] [] [6, 9, 15, 122, 123] [0, 1] (st' := ⟨[(6, .bool false), (9, iV wv), (15, .pointer (some ⟨(β2 17), 0, none⟩)), (122, iV ((max 1 wv) + 1)), (123, iV (m : Int))], [((β2 11), aO #[iV xn, iV xn, iV (elB p.bs b).2.2.1, iV (elB p.bs b).2.2.2.1, iV 0, iV 0] 54), ((β2 17), aO #[.slice (some ⟨(β2 11), 0, none⟩) 1 1, iV p.near, iV (max 1 wv), .slice none 0 0] 33)]⟩) (acc := [(.bool true, .bool true), (.bool true, .bool true), (.bool (decide (wv ≤ (m : Int))), .bool true), (.bool (jv == 2), .bool false), (.bool false, .bool false)]) (by kernel_rfl) (by kernel_rfl) ⟨rfl, rfl, (bo hd14), (bo hd13), rfl, trivial⟩ ?_
                              refine run_end (fn := f7) rfl (Nat.le_refl _) (by kernel_rfl) [] [.bool false] (e := []) (by kernel_rfl) trivial (fun w1 k1 h1 => ?_)
                              exfalso
                              omega
                          | true =>
                            have hp13 : jv = 2 := by simpa using hd13
                            cases hd14 : (decide (wv ≤ (m : Int))) with
                            | false =>
                              have hp14 := of_decide_eq_false hd14
                              refine run_auto [(133, .bool false), (136, .bool true), (139, .bool false), (140, .bool true)] 24 [true] [] [6, 9, 15, 122, 123] [0, 1] (st' := ⟨[(6, .bool false), (9, iV wv), (15, .pointer (some ⟨(β2 17), 0, none⟩)), (122, iV ((max 1 wv) + 1)), (123, iV (m : Int))], [((β2 11), aO #[iV xn, iV xn, iV (elB p.bs b).2.2.1, iV (elB p.bs b).2.2.2.1, iV 0, iV 0] 54), ((β2 17), aO #[.slice (some ⟨(β2 11), 0, none⟩) 1 1, iV p.near, iV (max 1 wv), .slice none 0 0] 33)]⟩) (acc := [(.bool true, .bool true), (.bool true, .bool true), (.bool (decide (wv ≤ (m : Int))), .bool false), (.bool (jv == 2), .bool true), (.bool false, .bool false)]) (by kernel_rfl) (by kernel_rfl) ⟨rfl, rfl, (bo hd14), (bo hd13), rfl, trivial⟩ ?_
                              refine run_end (fn := f7) rfl (Nat.le_refl _) (by kernel_rfl) [] [.bool false] (e := []) (by kernel_rfl) trivial (fun w1 k1 h1 => ?_)
                              exfalso
                              omega
                            | true =>
                              have hp14 := of_decide_eq_true hd14
                              refine run_auto [(133, .bool false), (136, .bool true), (139, .bool true), (140, .bool false), (142, iV ((m + 1 : Nat) : Int))] 26 [false] [] [6, 9, 15, 122, 123] [0, 1] (st' := ⟨[(6, .bool false), (9, iV wv), (15, .pointer (some ⟨(β2 17), 0, none⟩)), (122, iV ((max 1 wv) + 1)), (123, iV ((m + 1 : Nat) : Int))], [((β2 11), aO #[iV xn, iV xn, iV (elB p.bs b).2.2.1, iV (elB p.bs b).2.2.2.1, iV 0, iV 0] 54), ((β2 17), aO #[.slice (some ⟨(β2 11), 0, none⟩) 1 1, iV p.near, iV (max 1 wv), .slice none 0 0] 33)]⟩) (acc := [(iV (IntKind.i64.wrap ((m : Int) + 1)), iV ((m + 1 : Nat) : Int)), (.bool false, .bool false), (.bool false, .bool false), (.bool (decide (wv ≤ (m : Int))), .bool true), (.bool (jv == 2), .bool true), (.bool false, .bool false)]) (by kernel_rfl) (by kernel_rfl) ⟨(wr (by omega) (by omega)), rfl, rfl, (bo hd14), (bo hd13), rfl, trivial⟩ ?_
                              exact run_round (by kernel_rfl) (hJ0 (m + 1) (trivial) (by omega))
                      | true =>
                        have hp11 := of_decide_eq_true hd11
                        refine run_auto [(66, .bool false), (69, .bool false), (73, .bool false), (77, .bool false), (82, .bool false), (87, .bool false), (91, .bool true), (94, iV (-xn)), (95, iV (max xn (-xn))), (98, .bool true), (99, .bool false), (102, .bool true)] 57 [false, true] [0] [3, 6, 7, 8, 9] [0] (st' := ⟨[(3, pA b1), (6, .bool false), (7, iV (b : Int)), (8, iV xn), (9, iV wv)], [(b1, aO #[.slice p.ba p.bs.length p.bc, iV p.near, iV p.last, .slice p.ta p.ts.length p.tc] 33)]⟩) (acc := [(.bool true, .bool true), (.bool (decide (60 < wv)), .bool true), (.bool false, .bool false), (.bool false, .bool false), (.bool (decide ((max xn (-xn)) ≤ p.near)), .bool true), (pA b1, pA b1), (iV (if (-xn) > xn then (-xn) else xn), iV (max xn (-xn))), (iV (IntKind.i64.wrap (0 - xn)), iV (-xn)), (.bool (wv == 0), .bool true), (.bool (decide (wv < lv)), .bool false), (.bool (ov != wv), .bool false), (.bool (decide (wv < 0)), .bool false), (.bool (le_ != 0), .bool false), (.bool (od != 0), .bool false), (.bool (we != 0), .bool false)]) (by kernel_rfl) (by kernel_rfl) ⟨rfl, (bo hd11), rfl, rfl, (bo hd10), rfl, (mx _ _ _), ((wr (by omega) (by omega)).trans (io (by omega))), (bo hd9), (bo hd8), (bo hd7), (bo hd6), (bo hd5), (bo hd4), (bo hd3), trivial⟩ ?_
                        refine run_ret1 19 #[] (some 103) (.bool true) (by kernel_rfl) (fun w1 k1 h1 => alive_any w1) ?_
                        refine run_auto [] 2 [] [] [3, 6, 7, 8, 9] [0] (st' := ⟨[(3, pA b1), (6, .bool true), (7, iV (b : Int)), (8, iV xn), (9, iV wv)], [(b1, aO #[.slice p.ba p.bs.length p.bc, iV p.near, iV p.last, .slice p.ta p.ts.length p.tc] 33)]⟩) (acc := []) (by kernel_rfl) (by kernel_rfl) trivial ?_
                        refine run_end (fn := f7) rfl (Nat.le_refl _) (by kernel_rfl) [] [.bool true] (e := []) (by kernel_rfl) trivial (fun w1 k1 h1 => ?_)
                        exact ⟨rfl, k1.keeps (fun _ h => h)⟩
                | true =>
                  have hp8 := of_decide_eq_true hd8
                  refine run_auto [(66, .bool false), (69, .bool false), (73, .bool false), (77, .bool false), (82, .bool false), (87, .bool true)] 51 [true] [] [3, 6, 7, 8, 9] [0] (st' := ⟨[(3, pA b1), (6, .bool false), (7, iV (b : Int)), (8, iV xn), (9, iV wv)], [(b1, aO #[.slice p.ba p.bs.length p.bc, iV p.near, iV p.last, .slice p.ta p.ts.length p.tc] 33)]⟩) (acc := [(.bool true, .bool true), (.bool (decide (wv < lv)), .bool true), (.bool (ov != wv), .bool false), (.bool (decide (wv < 0)), .bool false), (.bool (le_ != 0), .bool false), (.bool (od != 0), .bool false), (.bool (we != 0), .bool false)]) (by kernel_rfl) (by kernel_rfl) ⟨rfl, (bo hd8), (bo hd7), (bo hd6), (bo hd5), (bo hd4), (bo hd3), trivial⟩ ?_
                  refine run_end (fn := f7) rfl (Nat.le_refl _) (by kernel_rfl) [] [.bool false] (e := []) (by kernel_rfl) trivial (fun w1 k1 h1 => ?_)
                  exfalso
                  omega
              | true =>
                have hp7 : ¬ ov = wv := by simpa using hd7
                refine run_auto [(66, .bool false), (69, .bool false), (73, .bool false), (77, .bool false), (82, .bool true)] 51 [true] [] [3, 6, 7, 8, 9] [0] (st' := ⟨[(3, pA b1), (6, .bool false), (7, iV (b : Int)), (8, iV xn), (9, iV wv)], [(b1, aO #[.slice p.ba p.bs.length p.bc, iV p.near, iV p.last, .slice p.ta p.ts.length p.tc] 33)]⟩) (acc := [(.bool true, .bool true), (.bool (ov != wv), .bool true), (.bool (decide (wv < 0)), .bool false), (.bool (le_ != 0), .bool false), (.bool (od != 0), .bool false), (.bool (we != 0), .bool false)]) (by kernel_rfl) (by kernel_rfl) ⟨rfl, (bo hd7), (bo hd6), (bo hd5), (bo hd4), (bo hd3), trivial⟩ ?_
                refine run_end (fn := f7) rfl (Nat.le_refl _) (by kernel_rfl) [] [.bool false] (e := []) (by kernel_rfl) trivial (fun w1 k1 h1 => ?_)
                exfalso
                omega
            | true =>
              have hp6 := of_decide_eq_true hd6
              refine run_auto [(66, .bool false), (69, .bool false), (73, .bool false), (77, .bool true)] 51 [true] [] [3, 6, 7, 8, 9] [0] (st' := ⟨[(3, pA b1), (6, .bool false), (7, iV (b : Int)), (8, iV xn), (9, iV wv)], [(b1, aO #[.slice p.ba p.bs.length p.bc, iV p.near, iV p.last, .slice p.ta p.ts.length p.tc] 33)]⟩) (acc := [(.bool true, .bool true), (.bool (decide (wv < 0)), .bool true), (.bool (le_ != 0), .bool false), (.bool (od != 0), .bool false), (.bool (we != 0), .bool false)]) (by kernel_rfl) (by kernel_rfl) ⟨rfl, (bo hd6), (bo hd5), (bo hd4), (bo hd3), trivial⟩ ?_
              refine run_end (fn := f7) rfl (Nat.le_refl _) (by kernel_rfl) [] [.bool false] (e := []) (by kernel_rfl) trivial (fun w1 k1 h1 => ?_)
              exfalso
              omega
          | true =>
            have hp5 : ¬ le_ = 0 := by simpa using hd5
            refine run_auto [(66, .bool false), (69, .bool false), (73, .bool true)] 51 [true] [] [3, 6, 7, 8, 9] [0] (st' := ⟨[(3, pA b1), (6, .bool false), (7, iV (b : Int)), (8, iV xn), (9, iV wv)], [(b1, aO #[.slice p.ba p.bs.length p.bc, iV p.near, iV p.last, .slice p.ta p.ts.length p.tc] 33)]⟩) (acc := [(.bool true, .bool true), (.bool (le_ != 0), .bool true), (.bool (od != 0), .bool false), (.bool (we != 0), .bool false)]) (by kernel_rfl) (by kernel_rfl) ⟨rfl, (bo hd5), (bo hd4), (bo hd3), trivial⟩ ?_
            refine run_end (fn := f7) rfl (Nat.le_refl _) (by kernel_rfl) [] [.bool false] (e := []) (by kernel_rfl) trivial (fun w1 k1 h1 => ?_)
            exfalso
            omega
        | true =>
          have hp4 : ¬ od = 0 := by simpa using hd4
          refine run_auto [(66, .bool false), (69, .bool true)] 51 [true] [] [3, 6, 7, 8, 9] [0] (st' := ⟨[(3, pA b1), (6, .bool false), (7, iV (b : Int)), (8, iV xn), (9, iV wv)], [(b1, aO #[.slice p.ba p.bs.length p.bc, iV p.near, iV p.last, .slice p.ta p.ts.length p.tc] 33)]⟩) (acc := [(.bool true, .bool true), (.bool (od != 0), .bool true), (.bool (we != 0), .bool false)]) (by kernel_rfl) (by kernel_rfl) ⟨rfl, (bo hd4), (bo hd3), trivial⟩ ?_
          refine run_end (fn := f7) rfl (Nat.le_refl _) (by kernel_rfl) [] [.bool false] (e := []) (by kernel_rfl) trivial (fun w1 k1 h1 => ?_)
          exfalso
          omega
      | true =>
        have hp3 : ¬ we = 0 := by simpa using hd3
        refine run_auto [(66, .bool true)] 51 [true] [] [3, 6, 7, 8, 9] [0] (st' := ⟨[(3, pA b1), (6, .bool false), (7, iV (b : Int)), (8, iV xn), (9, iV wv)], [(b1, aO #[.slice p.ba p.bs.length p.bc, iV p.near, iV p.last, .slice p.ta p.ts.length p.tc] 33)]⟩) (acc := [(.bool true, .bool true), (.bool (we != 0), .bool true)]) (by kernel_rfl) (by kernel_rfl) ⟨rfl, (bo hd3), trivial⟩ ?_
        refine run_end (fn := f7) rfl (Nat.le_refl _) (by kernel_rfl) [] [.bool false] (e := []) (by kernel_rfl) trivial (fun w1 k1 h1 => ?_)
        exfalso
        omega
  | true =>
    refine run_ret1 21 #[.agg #[.slice p.ba p.bs.length p.bc, iV p.near, iV p.last, .slice p.ta p.ts.length p.tc]] (some 22) (.bool true) (by kernel_rfl) (fun w1 k1 h1 => (by have h := long_any p w1; rw [hd1] at h; exact h)) ?_
    refine run_auto [] 9 [true] [] [1, 2, 3, 6] [0] (st' := ⟨[(1, .int .u8 y), (2, .int .u8 z), (3, pA b1), (6, .bool false)], [(b1, aO #[.slice p.ba p.bs.length p.bc, iV p.near, iV p.last, .slice p.ta p.ts.length p.tc] 33)]⟩) (acc := [(.bool true, .bool true)]) (by kernel_rfl) (by kernel_rfl) ⟨rfl, trivial⟩ ?_
    refine run_ret1 19 #[] (some 28) (.bool true) (by kernel_rfl) (fun w1 k1 h1 => alive_any w1) ?_
    refine run_auto [] 2 [] [] [1, 2, 3, 6] [0] (st' := ⟨[(1, .int .u8 y), (2, .int .u8 z), (3, pA b1), (6, .bool true)], [(b1, aO #[.slice p.ba p.bs.length p.bc, iV p.near, iV p.last, .slice p.ta p.ts.length p.tc] 33)]⟩) (acc := []) (by kernel_rfl) (by kernel_rfl) trivial ?_
    refine run_end (fn := f7) rfl (Nat.le_refl _) (by kernel_rfl) [] [.bool true] (e := []) (by kernel_rfl) trivial (fun w1 k1 h1 => ?_)
    exact ⟨rfl, k1.keeps (fun _ h => h)⟩

end Go.Proofs.Ytfjfkaaflghaiaa
