/-
  LAW: SettleTrue, walked.
-/
import Derived.Test.YtfjfkaaflghaiaaGm
import Derived.Test.YtfjfkaaflghaiaaGl
import Derived.Test.YtfjfkaaflghaiaaHR4
namespace Go.Proofs.Ytfjfkaaflghaiaa
open Go.RowKit Go.Proofs.Try
attribute [local irreducible] Run wpK


theorem RowU.keep {w w1 : World} {a : Option Addr} {L : List Int} (h : RowU w a L) (k : Keeps w w1) : RowU w1 a L := by
  intro hne
  obtain ⟨b, o, ha, hc⟩ := h hne
  exact ⟨b, o, ha, fun i hi => ⟨k.cell (hc i hi).1, (hc i hi).2⟩⟩
theorem WhIs.at {s : Sn} {b : Nat} {v e : Int} (h : WhIs s b v e) {j : Nat} (hj : j ≤ s.N) (he : e = 0) (hv : v ≤ (j : Int)) : s.set b j = true := by
  rcases h with ⟨h1, _⟩ | ⟨_, g, h2, hg, h3, _⟩
  · omega
  · exact h3 j (by omega) hj
theorem all_when {s : Sn} {av ae fv fe : Int} {b : Nat} (hb : b < s.bs.length) (h1 : (ae == 0) = smW s s.bs.length) (h2 : ae = 0 → av = mxW s s.bs.length) (h3 : inA (whenR s (b : Int)) = fv) (h4 : erA (whenR s (b : Int)) = fe) : ae = 0 → fe = 0 ∧ fv ≤ av := by
  intro h
  have h5 : smW s s.bs.length = true := by rw [← h1, h]; rfl
  have h6 := (smW_iff _).1 h5 b hb
  have h7 := (mxW_ge (s := s) s.bs.length).2 b hb
  rw [h4] at h6
  rw [h3] at h7
  exact ⟨h6, by rw [h2 h]; exact h7⟩
set_option maxRecDepth 100000 in
set_option maxHeartbeats 4000000 in
theorem settleTrue_any (p : Sb) (y : Int) (L : List Int) (aa : Option Addr) (lc : Nat) (y1 : 0 ≤ y) (y2 : y ≤ 255) (w : World) (hp : p.In w) (hU : RowU w aa L) (hlm : L.length ≤ maxLen) : Calls Try.prog 4 #[.agg #[.slice p.ba p.bs.length p.bc, .int .i64 p.near, .int .i64 p.last, .slice p.ta p.ts.length p.tc], .int .u8 y, .slice aa L.length lc] w (RetB true w) := by
  have hlb := hp.lb
  have hlt0 := hp.lt
  simp only [maxLen] at hlb hlt0
  refine calls_run (fn := f4) (c := (f4.body).getD .skip) [.agg #[.slice p.ba p.bs.length p.bc, .int .i64 p.near, .int .i64 p.last, .slice p.ta p.ts.length p.tc], .int .u8 y, .slice aa L.length lc] func4 (by kernel_rfl) (fun _ => False) [] (fun _ h => by cases h) (List.Pairwise.nil) 173 (by kernel_rfl) (by simp) ?_
  refine run_auto [] 2 [] [] [0, 1, 2] [] (st' := ⟨[(0, .agg #[.slice p.ba p.bs.length p.bc, iV p.near, iV p.last, .slice p.ta p.ts.length p.tc]), (1, .int .u8 y), (2, .slice aa L.length lc)], []⟩) (acc := []) (by kernel_rfl) (by kernel_rfl) trivial ?_
  refine run_new (aO #[.slice p.ba p.bs.length p.bc, iV p.near, iV p.last, .slice p.ta p.ts.length p.tc] 33) (fun b1 => pA b1) (some 3) (fun _ => by kernel_rfl) (fun b1 hb1 => ?_)
  refine run_auto [] 6 [] [0] [1, 2, 3, 6, 23] [0] (st' := ⟨[(1, .int .u8 y), (2, .slice aa L.length lc), (3, pA b1), (6, .bool false), (23, .agg #[.slice p.ba p.bs.length p.bc, iV p.near, iV p.last, .slice p.ta p.ts.length p.tc])], [(b1, aO #[.slice p.ba p.bs.length p.bc, iV p.near, iV p.last, .slice p.ta p.ts.length p.tc] 33)]⟩) (acc := [(pA b1, pA b1)]) (by kernel_rfl) (by kernel_rfl) ⟨rfl, trivial⟩ ?_
  cases hd1 : (lonB p) with
  | false =>
    refine run_ret1 21 #[.agg #[.slice p.ba p.bs.length p.bc, iV p.near, iV p.last, .slice p.ta p.ts.length p.tc]] (some 24) (.bool false) (by kernel_rfl) (fun w1 k1 h1 => (by have h := long_any p w1; rw [hd1] at h; exact h)) ?_
    refine run_auto [] 2 [] [0] [1, 2, 3, 6, 25, 26] [0] (st' := ⟨[(1, .int .u8 y), (2, .slice aa L.length lc), (3, pA b1), (6, .bool false), (25, .bool false), (26, .agg #[.slice p.ba p.bs.length p.bc, iV p.near, iV p.last, .slice p.ta p.ts.length p.tc])], [(b1, aO #[.slice p.ba p.bs.length p.bc, iV p.near, iV p.last, .slice p.ta p.ts.length p.tc] 33)]⟩) (acc := [(pA b1, pA b1)]) (by kernel_rfl) (by kernel_rfl) ⟨rfl, trivial⟩ ?_
    cases hd2 : p.n.ok with
    | false =>
      refine run_ret1 22 #[.agg #[.slice p.ba p.bs.length p.bc, iV p.near, iV p.last, .slice p.ta p.ts.length p.tc]] (some 27) (.bool false) (by kernel_rfl) (fun w1 k1 h1 => (by have h := rsettle_any p w1 (hp.keep (k1.keeps (fun _ h => h))); rw [hd2] at h; exact h)) ?_
      refine run_auto [(28, .bool true)] 6 [true] [] [1, 2, 3, 6] [0] (st' := ⟨[(1, .int .u8 y), (2, .slice aa L.length lc), (3, pA b1), (6, .bool false)], [(b1, aO #[.slice p.ba p.bs.length p.bc, iV p.near, iV p.last, .slice p.ta p.ts.length p.tc] 33)]⟩) (acc := [(.bool true, .bool true), (.bool true, .bool true)]) (by kernel_rfl) (by kernel_rfl) ⟨rfl, rfl, trivial⟩ ?_
      refine run_ret1 19 #[] (some 30) (.bool true) (by kernel_rfl) (fun w1 k1 h1 => alive_any w1) ?_
      refine run_auto [] 2 [] [] [1, 2, 3, 6] [0] (st' := ⟨[(1, .int .u8 y), (2, .slice aa L.length lc), (3, pA b1), (6, .bool true)], [(b1, aO #[.slice p.ba p.bs.length p.bc, iV p.near, iV p.last, .slice p.ta p.ts.length p.tc] 33)]⟩) (acc := []) (by kernel_rfl) (by kernel_rfl) trivial ?_
      refine run_end (fn := f4) rfl (Nat.le_refl _) (by kernel_rfl) [] [.bool true] (e := []) (by kernel_rfl) trivial (fun w1 k1 h1 => ?_)
      exact ⟨rfl, k1.keeps (fun _ h => h)⟩
    | true =>
      have hok := hd2
      have hF := Sn.fine hok
      have hl1 := lastN_is hok
      have hl2 : 1 ≤ p.last ∧ p.last ≤ 60 := hl1
      have hNl : p.last = (p.n.N : Int) := hF.lastN
      have hn1 : 1 ≤ p.bs.length := hF.n1
      have hn4 : p.bs.length ≤ 4 := hF.n4
      have hnr : 0 ≤ p.near ∧ p.near ≤ 20 := hF.nr
      obtain ⟨b, hbq, hbm⟩ := emod_nat (x := y) (n := (p.bs.length : Int)) (by omega)
      have hbl : b < p.bs.length := by omega
      have hB : BkF (elB p.bs b) := hF.bkF hbl
      have hBx := hB.x
      have hBs := hB.s
      have hBg := hB.g
      have hdx := dw_in L 0 (s := ((elB p.bs b).1, (elB p.bs b).2.1)) hBx.2.1
      have hds := dw_in L (0 + 1) (s := ((elB p.bs b).2.2.1, (elB p.bs b).2.2.2.1)) hBs.2.1
      have hdg := dw_in L (2 + p.ts.length * (p.n.N + 1)) (s := (elB p.bs b).2.2.2.2) hBg.2.1
      dsimp only at hdx hds
      obtain ⟨T, hT⟩ : ∃ T : Nat → Int, trP L p.n b (dwS L 0 ((elB p.bs b).1, (elB p.bs b).2.1)) (dwS L (0 + 1) ((elB p.bs b).2.2.1, (elB p.bs b).2.2.2.1)) = T := ⟨_, rfl⟩
      obtain ⟨gv, hgv⟩ : ∃ x, (dwS L (2 + p.ts.length * (p.n.N + 1)) (elB p.bs b).2.2.2.2) = x := ⟨_, rfl⟩
      rw [hgv] at hdg
      obtain ⟨fv, hfv⟩ : ∃ x, inA (whenR p.n (b : Int)) = x := ⟨_, rfl⟩
      obtain ⟨fe, hfe⟩ : ∃ x, erA (whenR p.n (b : Int)) = x := ⟨_, rfl⟩
      have hWh := wh_is hok hbl hfv hfe
      have hwq := hWh.q
      obtain ⟨av, hav⟩ : ∃ x, inA (allR p.n) = x := ⟨_, rfl⟩
      obtain ⟨ae, hae⟩ : ∃ x, erA (allR p.n) = x := ⟨_, rfl⟩
      obtain ⟨hal1, hal2, hal3⟩ := all_is hok hav hae
      have haw := all_when hbl hal1 hal2 hfv hfe
      refine run_ret1 22 #[.agg #[.slice p.ba p.bs.length p.bc, iV p.near, iV p.last, .slice p.ta p.ts.length p.tc]] (some 27) (.bool true) (by kernel_rfl) (fun w1 k1 h1 => (by have h := rsettle_any p w1 (hp.keep (k1.keeps (fun _ h => h))); rw [hd2] at h; exact h)) ?_
      refine run_auto [(28, .bool false), (32, iV y)] 12 [false] [0] [2, 3, 6, 32, 35] [0] (st' := ⟨[(2, .slice aa L.length lc), (3, pA b1), (6, .bool false), (32, iV y), (35, iV (p.bs.length : Int))], [(b1, aO #[.slice p.ba p.bs.length p.bc, iV p.near, iV p.last, .slice p.ta p.ts.length p.tc] 33)]⟩) (acc := [(pA b1, pA b1), (iV (IntKind.i64.wrap y), iV y), (.bool false, .bool false), (.bool false, .bool false)]) (by kernel_rfl) (by kernel_rfl) ⟨rfl, (wr (by omega) (by omega)), rfl, rfl, trivial⟩ ?_
      refine run_v (binOp .rem 3 (iV y) (iV (p.bs.length : Int)) >>= fun v => pure (Next.value v)) (some 36) (iV (b : Int)) (by kernel_rfl) (fun w1 k1 h1 => (by have h := rem_run (P := Try.prog) (w := w1) (t := 3) y (p.bs.length : Int) (by omega) (by omega); rw [hbq] at h; exact h)) ?_
      refine run_auto [] 7 [] [0] [3, 6, 7, 38, 39, 40] [0] (st' := ⟨[(3, pA b1), (6, .bool false), (7, iV (b : Int)), (38, .agg #[.slice p.ba p.bs.length p.bc, iV p.near, iV p.last, .slice p.ta p.ts.length p.tc]), (39, iV (b : Int)), (40, .slice aa L.length lc)], [(b1, aO #[.slice p.ba p.bs.length p.bc, iV p.near, iV p.last, .slice p.ta p.ts.length p.tc] 33)]⟩) (acc := [(pA b1, pA b1)]) (by kernel_rfl) (by kernel_rfl) ⟨rfl, trivial⟩ ?_
      refine run_nwl 23 #[.agg #[.slice p.ba p.bs.length p.bc, iV p.near, iV p.last, .slice p.ta p.ts.length p.tc], iV (b : Int), .slice aa L.length lc] (some 41) (α := Nat × Nat × List Value) (fun x => .tuple #[.slice (some ⟨(x.1), 0, none⟩) (p.n.N + 1) (x.2.1), iV gv]) (fun x => [((x.1), cO ((lnT T (p.n.N + 1)).flatMap inR ++ (x.2.2)) 3)]) (fun x => True) (by kernel_rfl) (fun x p hp => by simp only [List.mem_cons, List.not_mem_nil, or_false] at hp; rcases hp with rfl <;> rfl) (fun w1 k1 h1 => (by have h := truly_any p b L aa lc w1 (hp.keep (k1.keeps (fun _ h => h))) hok hbl (hU.keep (k1.keeps (fun _ h => h))) hlm; rw [hT, hgv] at h; exact h)) (fun x hI2 hn2 => ?_)
      obtain ⟨g2, cap2, sp2⟩ := x
      dsimp only at hI2 hn2
      have hg2 := hn2 _ (List.mem_of_getElem? (i := 0) rfl)
      refine run_auto [] 10 [] [1] [3, 6, 7, 8, 9, 45, 46] [0, 1] (st' := ⟨[(3, pA b1), (6, .bool false), (7, iV (b : Int)), (8, sV g2 (p.n.N + 1) cap2), (9, iV gv), (45, .agg #[.slice p.ba p.bs.length p.bc, iV p.near, iV p.last, .slice p.ta p.ts.length p.tc]), (46, iV (b : Int))], [(g2, cO ((lnT T (p.n.N + 1)).flatMap inR ++ sp2) 3), (b1, aO #[.slice p.ba p.bs.length p.bc, iV p.near, iV p.last, .slice p.ta p.ts.length p.tc] 33)]⟩) (acc := [(pA b1, pA b1)]) (by kernel_rfl) (by kernel_rfl) ⟨rfl, trivial⟩ ?_
      refine run_ret1 15 #[.agg #[.slice p.ba p.bs.length p.bc, iV p.near, iV p.last, .slice p.ta p.ts.length p.tc], iV (b : Int)] (some 47) (.tuple #[iV fv, iV fe]) (by kernel_rfl) (fun w1 k1 h1 => (by have h := When_any p (b : Int) w1 (hp.keep (k1.keeps (fun _ h => h))); rw [hfv, hfe] at h; exact h)) ?_
      refine run_auto [] 9 [] [1] [3, 6, 7, 8, 9, 10, 11, 51] [0, 1] (st' := ⟨[(3, pA b1), (6, .bool false), (7, iV (b : Int)), (8, sV g2 (p.n.N + 1) cap2), (9, iV gv), (10, iV fv), (11, iV fe), (51, .agg #[.slice p.ba p.bs.length p.bc, iV p.near, iV p.last, .slice p.ta p.ts.length p.tc])], [(g2, cO ((lnT T (p.n.N + 1)).flatMap inR ++ sp2) 3), (b1, aO #[.slice p.ba p.bs.length p.bc, iV p.near, iV p.last, .slice p.ta p.ts.length p.tc] 33)]⟩) (acc := [(pA b1, pA b1)]) (by kernel_rfl) (by kernel_rfl) ⟨rfl, trivial⟩ ?_
      refine run_ret1 24 #[.agg #[.slice p.ba p.bs.length p.bc, iV p.near, iV p.last, .slice p.ta p.ts.length p.tc]] (some 52) (.tuple #[iV av, iV ae]) (by kernel_rfl) (fun w1 k1 h1 => (by have h := All_any p w1 (hp.keep (k1.keeps (fun _ h => h))); rw [hav, hae] at h; exact h)) ?_
      refine run_auto [] 8 [] [] [3, 6, 7, 8, 9, 10, 11, 12, 13] [0, 1] (st' := ⟨[(3, pA b1), (6, .bool false), (7, iV (b : Int)), (8, sV g2 (p.n.N + 1) cap2), (9, iV gv), (10, iV fv), (11, iV fe), (12, iV av), (13, iV ae)], [(g2, cO ((lnT T (p.n.N + 1)).flatMap inR ++ sp2) 3), (b1, aO #[.slice p.ba p.bs.length p.bc, iV p.near, iV p.last, .slice p.ta p.ts.length p.tc] 33)]⟩) (acc := []) (by kernel_rfl) (by kernel_rfl) trivial ?_
      refine run_join (fun k => adv 30 [false] k) ⟨[(3, pA b1), (6, .bool false), (7, iV (b : Int)), (8, sV g2 (p.n.N + 1) cap2), (9, iV gv), (10, iV fv), (11, iV fe)], [(g2, cO ((lnT T (p.n.N + 1)).flatMap inR ++ sp2) 3), (b1, aO #[.slice p.ba p.bs.length p.bc, iV p.near, iV p.last, .slice p.ta p.ts.length p.tc] 33)]⟩ ?_ (fun hjoin7 => ?_)
      · skip
        refine run_auto [] 9 [] [] [3, 6, 7, 9, 10, 11, 82, 83, 84] [0, 1] (st' := ⟨[(3, pA b1), (6, .bool false), (7, iV (b : Int)), (9, iV gv), (10, iV fv), (11, iV fe), (82, sV g2 (p.n.N + 1) cap2), (83, iV ((p.n.N + 1) : Int)), (84, iV 0)], [(g2, cO ((lnT T (p.n.N + 1)).flatMap inR ++ sp2) 3), (b1, aO #[.slice p.ba p.bs.length p.bc, iV p.near, iV p.last, .slice p.ta p.ts.length p.tc] 33)]⟩) (acc := []) (by kernel_rfl) (by kernel_rfl) trivial ?_
        refine run_auto [] 0 [] [] [3, 6, 7, 9, 10, 11, 82, 83, 84] [0, 1] (st' := ⟨[(3, pA b1), (6, .bool false), (7, iV (b : Int)), (9, iV gv), (10, iV fv), (11, iV fe), (82, sV g2 (p.n.N + 1) cap2), (83, iV ((p.n.N + 1) : Int)), (84, iV 0)], [(g2, cO ((lnT T (p.n.N + 1)).flatMap inR ++ sp2) 3), (b1, aO #[.slice p.ba p.bs.length p.bc, iV p.near, iV p.last, .slice p.ta p.ts.length p.tc] 33)]⟩) (acc := []) (by kernel_rfl) (by kernel_rfl) trivial ?_
        refine run_loop (S := fun (j : Nat) => ⟨[(3, pA b1), (6, .bool false), (7, iV (b : Int)), (9, iV gv), (10, iV fv), (11, iV fe), (82, sV g2 (p.n.N + 1) cap2), (83, iV ((p.n.N + 1) : Int)), (84, iV (j : Int))], [(g2, cO ((lnT T (p.n.N + 1)).flatMap inR ++ sp2) 3), (b1, aO #[.slice p.ba p.bs.length p.bc, iV p.near, iV p.last, .slice p.ta p.ts.length p.tc] 33)]⟩) (fun j => j ≤ p.n.N + 1) (fun j => p.n.N + 1 - j) (0) (by kernel_rfl) (Nat.zero_le _) (by kernel_rfl) (fun j hI0 J0 hJ0 => ?_)
        have hjN := hI0
        cases hd3 : (decide ((j : Int) < ((p.n.N + 1) : Int))) with
        | false =>
          have hp3 := of_decide_eq_false hd3
          refine run_auto [(85, .bool false)] 9 [false] [] [6] [] (st' := ⟨[(6, .bool false)], []⟩) (acc := [(.bool false, .bool false), (.bool (decide ((j : Int) < ((p.n.N + 1) : Int))), .bool false)]) (by kernel_rfl) (by kernel_rfl) ⟨rfl, (bo hd3), trivial⟩ ?_
          refine run_ret1 19 #[] (some 172) (.bool true) (by kernel_rfl) (fun w1 k1 h1 => alive_any w1) ?_
          refine run_auto [] 2 [] [] [6] [] (st' := ⟨[(6, .bool true)], []⟩) (acc := []) (by kernel_rfl) (by kernel_rfl) trivial ?_
          refine run_end (fn := f4) rfl (Nat.le_refl _) (by kernel_rfl) [] [.bool true] (e := []) (by kernel_rfl) trivial (fun w1 k1 h1 => ?_)
          exact ⟨rfl, k1.keeps (fun _ h => h)⟩
        | true =>
          have hp3 := of_decide_eq_true hd3
          have hj60 : j ≤ 60 := by omega
          obtain ⟨jv, hjv⟩ : ∃ x, p.n.judge b j = x := ⟨_, rfl⟩
          obtain ⟨nv, hnv⟩ : ∃ x, elI (lnT T (p.n.N + 1)) j = x := ⟨_, rfl⟩
          have htn : T (j + 1) = nv := (lnT_at T (by omega)).symm.trans hnv
          have htv : trP L p.n b (dwS L 0 ((elB p.bs b).1, (elB p.bs b).2.1)) (dwS L (0 + 1) ((elB p.bs b).2.2.1, (elB p.bs b).2.2.2.1)) (j + 1) = nv := by rw [hT]; exact htn
          have hto := true_in hF L hbl hds hdx hj60 htv hjv
          have hnn : p.n.near = p.near := rfl
          rw [hnn] at hto
          obtain ⟨ho1, ho2, ho3, ho4⟩ := hto
          have hnb := tr_bd hF L hbl (s0 := (dwS L 0 ((elB p.bs b).1, (elB p.bs b).2.1))) (k := (dwS L (0 + 1) ((elB p.bs b).2.2.1, (elB p.bs b).2.2.2.1))) (by omega) hdx (j + 1) (by omega)
          rw [htv] at hnb
          obtain ⟨qn, hqn⟩ : ∃ q, elI (lnT T (p.n.N + 1)) j * gv = q := ⟨_, rfl⟩
          have hqb : -1000000000 ≤ qn ∧ qn ≤ 1000000000 := by rw [← hqn, hnv, Int.mul_comm]; exact prod_bd (by omega) (by omega)
          have hli := lon_in (e := p.n.out b j) (g := (elB p.bs b).2.2.2.2) (n := nv) (v := gv) ⟨ho1, ho2⟩ hBg.1 hdg
          rw [show nv * gv = qn from by rw [← hnv]; exact hqn] at hli
          have hi1 : inB (elI (lnT T (p.n.N + 1)) j) (p.n.out b j) = true := by rw [hnv]; exact decide_eq_true ⟨ho1, ho2⟩
          have hi2 : inB (dwn qn) (lonS (p.n.out b j) (elB p.bs b).2.2.2.2) = true := decide_eq_true hli
          have hfj : fe = 0 → fv ≤ (j : Int) → jv = 2 := fun h5 h6 => by have h7 := hWh.at (j := j) (by omega) h5 h6; rw [(jo_is hF hbl (m := j) (by omega) hjv).2.2] at h7; simpa using h7
          refine run_auto [(85, .bool true)] 12 [true] [] [3, 6, 7, 9, 10, 11, 82, 83, 84, 86] [0, 1] (st' := ⟨[(3, pA b1), (6, .bool false), (7, iV (b : Int)), (9, iV gv), (10, iV fv), (11, iV fe), (82, sV g2 (p.n.N + 1) cap2), (83, iV ((p.n.N + 1) : Int)), (84, iV (j : Int)), (86, iV (j : Int))], [(g2, cO ((lnT T (p.n.N + 1)).flatMap inR ++ sp2) 3), (b1, aO #[.slice p.ba p.bs.length p.bc, iV p.near, iV p.last, .slice p.ta p.ts.length p.tc] 33)]⟩) (acc := [(.bool true, .bool true), (.bool (decide ((j : Int) < ((p.n.N + 1) : Int))), .bool true)]) (by kernel_rfl) (by kernel_rfl) ⟨rfl, (bo hd3), trivial⟩ ?_
          refine run_v (Instr.indexAt 46 (sV g2 (p.n.N + 1) cap2) (iV (j : Int)) >>= fun v => pure (Next.value v)) (some 87) (.pointer (some ⟨g2, j, none⟩)) (by kernel_rfl) (fun w1 k1 h1 => idx_off (e := 3) (n := 1) (by kernel_rfl) (by kernel_rfl) g2 (0) (p.n.N + 1) cap2 .i64 j (by omega) (j) (by omega) w1) ?_
          refine run_v (Instr.loadAt 3 (.pointer (some ⟨g2, j, none⟩)) >>= fun v => pure (Next.value v)) (some 88) (iV (elI (lnT T (p.n.N + 1)) j)) (by kernel_rfl) (fun w1 k1 h1 => load_own (e := 3) (fr := (0, 0)) (c := (lnT T (p.n.N + 1)).flatMap inR ++ sp2) h1 (List.mem_of_getElem? (i := 0) (by kernel_rfl)) (flat_loadF (c := inR) (n := 1) inR_len (by kernel_rfl) (i := j) (k := 0) (by rw [lnT_len]; omega) (by rw [inR_at (by rw [lnT_len]; omega)]; rfl) (by omega))) ?_
          refine run_auto [] 8 [] [1] [3, 6, 7, 9, 10, 11, 82, 83, 84, 14, 15, 90, 91, 92] [0, 1] (st' := ⟨[(3, pA b1), (6, .bool false), (7, iV (b : Int)), (9, iV gv), (10, iV fv), (11, iV fe), (82, sV g2 (p.n.N + 1) cap2), (83, iV ((p.n.N + 1) : Int)), (84, iV (j : Int)), (14, iV (j : Int)), (15, iV (elI (lnT T (p.n.N + 1)) j)), (90, .agg #[.slice p.ba p.bs.length p.bc, iV p.near, iV p.last, .slice p.ta p.ts.length p.tc]), (91, iV (b : Int)), (92, iV (j : Int))], [(g2, cO ((lnT T (p.n.N + 1)).flatMap inR ++ sp2) 3), (b1, aO #[.slice p.ba p.bs.length p.bc, iV p.near, iV p.last, .slice p.ta p.ts.length p.tc] 33)]⟩) (acc := [(pA b1, pA b1)]) (by kernel_rfl) (by kernel_rfl) ⟨rfl, trivial⟩ ?_
          refine run_ret1 11 #[.agg #[.slice p.ba p.bs.length p.bc, iV p.near, iV p.last, .slice p.ta p.ts.length p.tc], iV (b : Int), iV (j : Int)] (some 93) (.tuple #[.agg #[iV (p.n.out b j).1, iV (p.n.out b j).2], iV 0]) (by kernel_rfl) (fun w1 k1 h1 => (by have h := Excess_any p (b : Int) (j : Int) w1 (hp.keep (k1.keeps (fun _ h => h))); rw [show excR p.n (b : Int) (j : Int) = .inr (p.n.out b j) from exc_is hok hbl (by show (j : Int) ≤ p.last; omega)] at h; exact h)) ?_
          refine run_auto [] 3 [] [] [3, 6, 7, 9, 10, 11, 82, 83, 84, 14, 15, 94, 95] [0, 1] (st' := ⟨[(3, pA b1), (6, .bool false), (7, iV (b : Int)), (9, iV gv), (10, iV fv), (11, iV fe), (82, sV g2 (p.n.N + 1) cap2), (83, iV ((p.n.N + 1) : Int)), (84, iV (j : Int)), (14, iV (j : Int)), (15, iV (elI (lnT T (p.n.N + 1)) j)), (94, .agg #[iV (p.n.out b j).1, iV (p.n.out b j).2]), (95, iV 0)], [(g2, cO ((lnT T (p.n.N + 1)).flatMap inR ++ sp2) 3), (b1, aO #[.slice p.ba p.bs.length p.bc, iV p.near, iV p.last, .slice p.ta p.ts.length p.tc] 33)]⟩) (acc := []) (by kernel_rfl) (by kernel_rfl) trivial ?_
          refine run_new (aO #[iV 0, iV 0] 23) (fun b3 => pA b3) (some 16) (fun _ => by kernel_rfl) (fun b3 hb3 => ?_)
          refine run_auto [] 8 [] [0, 2] [3, 6, 7, 9, 10, 11, 82, 83, 84, 14, 15, 16, 17, 97, 98, 99] [0, 1, 2] (st' := ⟨[(3, pA b1), (6, .bool false), (7, iV (b : Int)), (9, iV gv), (10, iV fv), (11, iV fe), (82, sV g2 (p.n.N + 1) cap2), (83, iV ((p.n.N + 1) : Int)), (84, iV (j : Int)), (14, iV (j : Int)), (15, iV (elI (lnT T (p.n.N + 1)) j)), (16, pA b3), (17, iV 0), (97, .agg #[.slice p.ba p.bs.length p.bc, iV p.near, iV p.last, .slice p.ta p.ts.length p.tc]), (98, iV (b : Int)), (99, iV (j : Int))], [(b3, aO #[iV (p.n.out b j).1, iV (p.n.out b j).2] 23), (g2, cO ((lnT T (p.n.N + 1)).flatMap inR ++ sp2) 3), (b1, aO #[.slice p.ba p.bs.length p.bc, iV p.near, iV p.last, .slice p.ta p.ts.length p.tc] 33)]⟩) (acc := [(pA b1, pA b1), (pA b3, pA b3)]) (by kernel_rfl) (by kernel_rfl) ⟨rfl, rfl, trivial⟩ ?_
          refine run_ret1 13 #[.agg #[.slice p.ba p.bs.length p.bc, iV p.near, iV p.last, .slice p.ta p.ts.length p.tc], iV (b : Int), iV (j : Int)] (some 100) (.tuple #[.agg #[iV ((lonS (p.n.out b j) (elB p.bs b).2.2.2.2).1), iV ((lonS (p.n.out b j) (elB p.bs b).2.2.2.2).2)], iV 0]) (by kernel_rfl) (fun w1 k1 h1 => (by have h := Longer_any p (b : Int) (j : Int) w1 (hp.keep (k1.keeps (fun _ h => h))); rw [show lonR p.n (b : Int) (j : Int) = .inr (lonS (p.n.out b j) (elB p.bs b).2.2.2.2) from lon_is hok hbl (by show (j : Int) ≤ p.last; omega)] at h; exact h)) ?_
          refine run_auto [] 3 [] [] [3, 6, 7, 9, 10, 11, 82, 83, 84, 14, 15, 16, 17, 101, 102] [0, 1, 2] (st' := ⟨[(3, pA b1), (6, .bool false), (7, iV (b : Int)), (9, iV gv), (10, iV fv), (11, iV fe), (82, sV g2 (p.n.N + 1) cap2), (83, iV ((p.n.N + 1) : Int)), (84, iV (j : Int)), (14, iV (j : Int)), (15, iV (elI (lnT T (p.n.N + 1)) j)), (16, pA b3), (17, iV 0), (101, .agg #[iV ((lonS (p.n.out b j) (elB p.bs b).2.2.2.2).1), iV ((lonS (p.n.out b j) (elB p.bs b).2.2.2.2).2)]), (102, iV 0)], [(b3, aO #[iV (p.n.out b j).1, iV (p.n.out b j).2] 23), (g2, cO ((lnT T (p.n.N + 1)).flatMap inR ++ sp2) 3), (b1, aO #[.slice p.ba p.bs.length p.bc, iV p.near, iV p.last, .slice p.ta p.ts.length p.tc] 33)]⟩) (acc := []) (by kernel_rfl) (by kernel_rfl) trivial ?_
          refine run_new (aO #[iV 0, iV 0] 23) (fun b4 => pA b4) (some 18) (fun _ => by kernel_rfl) (fun b4 hb4 => ?_)
          refine run_auto [] 8 [] [0, 3] [3, 6, 7, 9, 10, 11, 82, 83, 84, 14, 15, 16, 17, 18, 19, 104, 105, 106] [0, 1, 2, 3] (st' := ⟨[(3, pA b1), (6, .bool false), (7, iV (b : Int)), (9, iV gv), (10, iV fv), (11, iV fe), (82, sV g2 (p.n.N + 1) cap2), (83, iV ((p.n.N + 1) : Int)), (84, iV (j : Int)), (14, iV (j : Int)), (15, iV (elI (lnT T (p.n.N + 1)) j)), (16, pA b3), (17, iV 0), (18, pA b4), (19, iV 0), (104, .agg #[.slice p.ba p.bs.length p.bc, iV p.near, iV p.last, .slice p.ta p.ts.length p.tc]), (105, iV (b : Int)), (106, iV (j : Int))], [(b4, aO #[iV ((lonS (p.n.out b j) (elB p.bs b).2.2.2.2).1), iV ((lonS (p.n.out b j) (elB p.bs b).2.2.2.2).2)] 23), (b3, aO #[iV (p.n.out b j).1, iV (p.n.out b j).2] 23), (g2, cO ((lnT T (p.n.N + 1)).flatMap inR ++ sp2) 3), (b1, aO #[.slice p.ba p.bs.length p.bc, iV p.near, iV p.last, .slice p.ta p.ts.length p.tc] 33)]⟩) (acc := [(pA b1, pA b1), (pA b4, pA b4)]) (by kernel_rfl) (by kernel_rfl) ⟨rfl, rfl, trivial⟩ ?_
          refine run_ret1 14 #[.agg #[.slice p.ba p.bs.length p.bc, iV p.near, iV p.last, .slice p.ta p.ts.length p.tc], iV (b : Int), iV (j : Int)] (some 107) (.tuple #[iV jv, iV 0]) (by kernel_rfl) (fun w1 k1 h1 => (by have h := Settled_any p (b : Int) (j : Int) w1 (hp.keep (k1.keeps (fun _ h => h))); rw [show setR p.n (b : Int) (j : Int) = .inr jv from (set_is hok hbl (by show (j : Int) ≤ p.last; omega)).trans (congrArg _ hjv)] at h; exact h)) ?_
          refine run_auto [(113, iV (-p.near))] 14 [] [3, 3] [3, 6, 7, 9, 10, 11, 82, 83, 84, 14, 15, 16, 17, 18, 19, 20, 21, 110, 113, 115] [0, 1, 2, 3] (st' := ⟨[(3, pA b1), (6, .bool false), (7, iV (b : Int)), (9, iV gv), (10, iV fv), (11, iV fe), (82, sV g2 (p.n.N + 1) cap2), (83, iV ((p.n.N + 1) : Int)), (84, iV (j : Int)), (14, iV (j : Int)), (15, iV (elI (lnT T (p.n.N + 1)) j)), (16, pA b3), (17, iV 0), (18, pA b4), (19, iV 0), (20, iV jv), (21, iV 0), (110, iV (elI (lnT T (p.n.N + 1)) j)), (113, iV (-p.near)), (115, iV p.near)], [(b4, aO #[iV ((lonS (p.n.out b j) (elB p.bs b).2.2.2.2).1), iV ((lonS (p.n.out b j) (elB p.bs b).2.2.2.2).2)] 23), (b3, aO #[iV (p.n.out b j).1, iV (p.n.out b j).2] 23), (g2, cO ((lnT T (p.n.N + 1)).flatMap inR ++ sp2) 3), (b1, aO #[.slice p.ba p.bs.length p.bc, iV p.near, iV p.last, .slice p.ta p.ts.length p.tc] 33)]⟩) (acc := [(pA b1, pA b1), (iV (IntKind.i64.wrap (0 - p.near)), iV (-p.near)), (pA b1, pA b1)]) (by kernel_rfl) (by kernel_rfl) ⟨rfl, ((wr (by omega) (by omega)).trans (io (by omega))), rfl, trivial⟩ ?_
          refine run_ret1 10 #[iV (-p.near), iV p.near] (some 116) (.agg #[iV (-p.near), iV p.near]) (by kernel_rfl) (fun w1 k1 h1 => span_any (-p.near) p.near w1) ?_
          cases hd4 : (inB (elI (lnT T (p.n.N + 1)) j) ((-p.near), p.near)) with
          | false =>
            have hnwhd4 := of_decide_eq_false (show decide _ = false from hd4)
            dsimp only at hnwhd4
            rw [hnv] at hnwhd4
            refine run_ret1 25 #[iV (elI (lnT T (p.n.N + 1)) j), .agg #[iV (-p.near), iV p.near]] (some 117) (.bool false) (by kernel_rfl) (fun w1 k1 h1 => (by have h := inside_any (elI (lnT T (p.n.N + 1)) j) ((-p.near), p.near) w1; rw [hd4] at h; exact h)) ?_
            refine run_auto [] 3 [] [] [3, 6, 7, 9, 10, 11, 82, 83, 84, 14, 15, 16, 17, 18, 19, 20, 21, 22] [0, 1, 2, 3] (st' := ⟨[(3, pA b1), (6, .bool false), (7, iV (b : Int)), (9, iV gv), (10, iV fv), (11, iV fe), (82, sV g2 (p.n.N + 1) cap2), (83, iV ((p.n.N + 1) : Int)), (84, iV (j : Int)), (14, iV (j : Int)), (15, iV (elI (lnT T (p.n.N + 1)) j)), (16, pA b3), (17, iV 0), (18, pA b4), (19, iV 0), (20, iV jv), (21, iV 0), (22, .bool false)], [(b4, aO #[iV ((lonS (p.n.out b j) (elB p.bs b).2.2.2.2).1), iV ((lonS (p.n.out b j) (elB p.bs b).2.2.2.2).2)] 23), (b3, aO #[iV (p.n.out b j).1, iV (p.n.out b j).2] 23), (g2, cO ((lnT T (p.n.N + 1)).flatMap inR ++ sp2) 3), (b1, aO #[.slice p.ba p.bs.length p.bc, iV p.near, iV p.last, .slice p.ta p.ts.length p.tc] 33)]⟩) (acc := []) (by kernel_rfl) (by kernel_rfl) trivial ?_
            cases hd5 : (inB (elI (lnT T (p.n.N + 1)) j) (p.n.out b j)) with
            | false =>
              rw [hi1] at hd5
              cases hd5
            | true =>
              cases hd6 : (inB (dwn qn) (lonS (p.n.out b j) (elB p.bs b).2.2.2.2)) with
              | false =>
                rw [hi2] at hd6
                cases hd6
              | true =>
                cases hd7 : (jv == 2) with
                | false =>
                  have hp7 : ¬ jv = 2 := by simpa using hd7
                  cases hd8 : (jv == 0) with
                  | false =>
                    have hp8 : ¬ jv = 0 := by simpa using hd8
                    cases hd9 : (fe == 0) with
                    | false =>
                      have hp9 : ¬ fe = 0 := by simpa using hd9
                      refine drawW 53 [{ val := fun _ => iV 0, slots := [17] },
                                              { val := fun _ => .bool false, slots := [118] },
                                              { val := fun _ => .bool false, slots := [119] },
                                              { val := fun _ => iV 0, slots := [19, 120] },
                                              { val := fun _ => .bool false, slots := [120, 121] },
                                              { val := fun _ => .bool false, slots := [120, 122] },
                                              { val := fun _ => .bool false, slots := [123] },
                                              { val := fun _ => iV 0, slots := [21, 124] },
                                              { val := fun _ => .bool false, slots := [124, 125] },
                                              { val := fun _ => .bool false, slots := [124, 126] },
                                              { val := fun _ => .bool false, slots := [127] },
                                              { val := fun _ => iV (elI (lnT T (p.n.N + 1)) j), slots := [15, 128] },
                                              { val := fun _ => .agg #[iV (p.n.out b j).1, iV (p.n.out b j).2], slots := [16, 128], reads := [1] },
                                              { val := fun _ => .bool true, slots := [128, 129, 130] },
                                              { val := fun _ => .bool false, slots := [128, 131] },
                                              { val := fun _ => .bool false, slots := [128, 132] },
                                              { val := fun _ => .bool false, slots := [133] },
                                              { val := fun _ => iV (elI (lnT T (p.n.N + 1)) j), slots := [15, 134] },
                                              { val := fun _ => iV gv, slots := [9, 134] },
                                              { val := fun _ => iV qn, slots := [134, 135, 136] },
                                              { val := fun _ => iV (dwn qn), slots := [134, 137] },
                                              { val := fun _ => .agg #[iV ((lonS (p.n.out b j) (elB p.bs b).2.2.2.2).1), iV ((lonS (p.n.out b j) (elB p.bs b).2.2.2.2).2)], slots := [18, 134], reads := [0] },
                                              { val := fun _ => .bool true, slots := [134, 138, 139] },
                                              { val := fun _ => .bool false, slots := [134, 140] },
                                              { val := fun _ => .bool false, slots := [134, 141] },
                                              { val := fun _ => .bool false, slots := [142] },
                                              { val := fun _ => iV jv, slots := [20, 143] },
                                              { val := fun _ => .bool false, slots := [143, 144] },
                                              { val := fun _ => .bool false, slots := [143, 145] },
                                              { slots := [146] },
                                              { slots := [146] },
                                              { val := fun _ => .bool false, slots := [143, 146, 148] },
                                              { val := fun _ => .bool false, slots := [143, 149] },
                                              { val := fun _ => .bool false, slots := [150] },
                                              { val := fun _ => iV jv, slots := [20, 151] },
                                              { val := fun _ => .bool false, slots := [151, 152] },
                                              { val := fun _ => .bool false, slots := [151, 153] },
                                              { slots := [154] },
                                              { val := fun _ => .bool false, slots := [151, 154, 155] },
                                              { val := fun _ => .bool false, slots := [151, 156] },
                                              { val := fun _ => .bool false, slots := [157] },
                                              { val := fun _ => iV fe, slots := [11, 158] },
                                              { val := fun _ => .bool false, slots := [158, 159] },
                                              { val := fun _ => .bool false, slots := [158, 160] },
                                              { slots := [161] },
                                              { slots := [161] },
                                              { slots := [161] },
                                              { val := fun _ => .bool false, slots := [158, 161, 164] },
                                              { val := fun _ => .bool false, slots := [158, 165] },
                                              { slots := [166] },
                                              { slots := [166] },
                                              { val := fun _ => .bool false, slots := [158, 166, 168] },
                                              { val := fun _ => .bool false, slots := [158, 169] }] [[], [0], [0, 1], [0, 1, 2], [0, 1, 2, 3], [0, 1, 2, 3, 4], [0, 1, 2, 3, 4, 5], [0, 1, 2, 3, 4, 5, 6], [0, 1, 2, 3, 4, 5, 6, 7], [0, 1, 2, 3, 4, 5, 6, 7, 8], [0, 1, 2, 3, 4, 5, 6, 7, 8, 9], [0, 1, 2, 3, 4, 5, 6, 7, 8, 9, 10], [0, 1, 2, 3, 4, 5, 6, 7, 8, 9, 10], [0, 1, 2, 3, 4, 5, 6, 7, 8, 9, 10, 11, 12], [0, 1, 2, 3, 4, 5, 6, 7, 8, 9, 10, 11, 12, 13], [0, 1, 2, 3, 4, 5, 6, 7, 8, 9, 10, 11, 12, 13, 14], [0, 1, 2, 3, 4, 5, 6, 7, 8, 9, 10, 11, 12, 13, 14, 15], [0, 1, 2, 3, 4, 5, 6, 7, 8, 9, 10, 11, 12, 13, 14, 15, 16], [0, 1, 2, 3, 4, 5, 6, 7, 8, 9, 10, 11, 12, 13, 14, 15, 16], [0, 1, 2, 3, 4, 5, 6, 7, 8, 9, 10, 11, 12, 13, 14, 15, 16, 17, 18], [0, 1, 2, 3, 4, 5, 6, 7, 8, 9, 10, 11, 12, 13, 14, 15, 16, 17, 18, 19], [0, 1, 2, 3, 4, 5, 6, 7, 8, 9, 10, 11, 12, 13, 14, 15, 16], [0, 1, 2, 3, 4, 5, 6, 7, 8, 9, 10, 11, 12, 13, 14, 15, 16, 17, 18, 19, 20, 21], [0, 1, 2, 3, 4, 5, 6, 7, 8, 9, 10, 11, 12, 13, 14, 15, 16, 17, 18, 19, 20, 21, 22], [0, 1, 2, 3, 4, 5, 6, 7, 8, 9, 10, 11, 12, 13, 14, 15, 16, 17, 18, 19, 20, 21, 22, 23], [0, 1, 2, 3, 4, 5, 6, 7, 8, 9, 10, 11, 12, 13, 14, 15, 16, 17, 18, 19, 20, 21, 22, 23, 24], [0, 1, 2, 3, 4, 5, 6, 7, 8, 9, 10, 11, 12, 13, 14, 15, 16, 17, 18, 19, 20, 21, 22, 23, 24, 25], [0, 1, 2, 3, 4, 5, 6, 7, 8, 9, 10, 11, 12, 13, 14, 15, 16, 17, 18, 19, 20, 21, 22, 23, 24, 25, 26], [0, 1, 2, 3, 4, 5, 6, 7, 8, 9, 10, 11, 12, 13, 14, 15, 16, 17, 18, 19, 20, 21, 22, 23, 24, 25, 26, 27], [0, 1, 2, 3, 4, 5, 6, 7, 8, 9, 10, 11, 12, 13, 14, 15, 16, 17, 18, 19, 20, 21, 22, 23, 24, 25, 26, 27, 28], [0, 1, 2, 3, 4, 5, 6, 7, 8, 9, 10, 11, 12, 13, 14, 15, 16, 17, 18, 19, 20, 21, 22, 23, 24, 25, 26, 27, 28, 29], [0, 1, 2, 3, 4, 5, 6, 7, 8, 9, 10, 11, 12, 13, 14, 15, 16, 17, 18, 19, 20, 21, 22, 23, 24, 25, 26, 27, 28, 29, 30], [0, 1, 2, 3, 4, 5, 6, 7, 8, 9, 10, 11, 12, 13, 14, 15, 16, 17, 18, 19, 20, 21, 22, 23, 24, 25, 26, 27, 28, 29, 30, 31], [0, 1, 2, 3, 4, 5, 6, 7, 8, 9, 10, 11, 12, 13, 14, 15, 16, 17, 18, 19, 20, 21, 22, 23, 24, 25, 26, 27, 28, 29, 30, 31, 32], [0, 1, 2, 3, 4, 5, 6, 7, 8, 9, 10, 11, 12, 13, 14, 15, 16, 17, 18, 19, 20, 21, 22, 23, 24, 25, 26, 27, 28, 29, 30, 31, 32, 33], [0, 1, 2, 3, 4, 5, 6, 7, 8, 9, 10, 11, 12, 13, 14, 15, 16, 17, 18, 19, 20, 21, 22, 23, 24, 25, 26, 27, 28, 29, 30, 31, 32, 33, 34], [0, 1, 2, 3, 4, 5, 6, 7, 8, 9, 10, 11, 12, 13, 14, 15, 16, 17, 18, 19, 20, 21, 22, 23, 24, 25, 26, 27, 28, 29, 30, 31, 32, 33, 34, 35], [0, 1, 2, 3, 4, 5, 6, 7, 8, 9, 10, 11, 12, 13, 14, 15, 16, 17, 18, 19, 20, 21, 22, 23, 24, 25, 26, 27, 28, 29, 30, 31, 32, 33, 34, 35, 36], [0, 1, 2, 3, 4, 5, 6, 7, 8, 9, 10, 11, 12, 13, 14, 15, 16, 17, 18, 19, 20, 21, 22, 23, 24, 25, 26, 27, 28, 29, 30, 31, 32, 33, 34, 35, 36, 37], [0, 1, 2, 3, 4, 5, 6, 7, 8, 9, 10, 11, 12, 13, 14, 15, 16, 17, 18, 19, 20, 21, 22, 23, 24, 25, 26, 27, 28, 29, 30, 31, 32, 33, 34, 35, 36, 37, 38], [0, 1, 2, 3, 4, 5, 6, 7, 8, 9, 10, 11, 12, 13, 14, 15, 16, 17, 18, 19, 20, 21, 22, 23, 24, 25, 26, 27, 28, 29, 30, 31, 32, 33, 34, 35, 36, 37, 38, 39], [0, 1, 2, 3, 4, 5, 6, 7, 8, 9, 10, 11, 12, 13, 14, 15, 16, 17, 18, 19, 20, 21, 22, 23, 24, 25, 26, 27, 28, 29, 30, 31, 32, 33, 34, 35, 36, 37, 38, 39, 40], [0, 1, 2, 3, 4, 5, 6, 7, 8, 9, 10, 11, 12, 13, 14, 15, 16, 17, 18, 19, 20, 21, 22, 23, 24, 25, 26, 27, 28, 29, 30, 31, 32, 33, 34, 35, 36, 37, 38, 39, 40, 41], [0, 1, 2, 3, 4, 5, 6, 7, 8, 9, 10, 11, 12, 13, 14, 15, 16, 17, 18, 19, 20, 21, 22, 23, 24, 25, 26, 27, 28, 29, 30, 31, 32, 33, 34, 35, 36, 37, 38, 39, 40, 41, 42], [0, 1, 2, 3, 4, 5, 6, 7, 8, 9, 10, 11, 12, 13, 14, 15, 16, 17, 18, 19, 20, 21, 22, 23, 24, 25, 26, 27, 28, 29, 30, 31, 32, 33, 34, 35, 36, 37, 38, 39, 40, 41, 42, 43], [0, 1, 2, 3, 4, 5, 6, 7, 8, 9, 10, 11, 12, 13, 14, 15, 16, 17, 18, 19, 20, 21, 22, 23, 24, 25, 26, 27, 28, 29, 30, 31, 32, 33, 34, 35, 36, 37, 38, 39, 40, 41, 42, 43], [0, 1, 2, 3, 4, 5, 6, 7, 8, 9, 10, 11, 12, 13, 14, 15, 16, 17, 18, 19, 20, 21, 22, 23, 24, 25, 26, 27, 28, 29, 30, 31, 32, 33, 34, 35, 36, 37, 38, 39, 40, 41, 42, 43, 44, 45], [0, 1, 2, 3, 4, 5, 6, 7, 8, 9, 10, 11, 12, 13, 14, 15, 16, 17, 18, 19, 20, 21, 22, 23, 24, 25, 26, 27, 28, 29, 30, 31, 32, 33, 34, 35, 36, 37, 38, 39, 40, 41, 42, 43, 44, 45, 46], [0, 1, 2, 3, 4, 5, 6, 7, 8, 9, 10, 11, 12, 13, 14, 15, 16, 17, 18, 19, 20, 21, 22, 23, 24, 25, 26, 27, 28, 29, 30, 31, 32, 33, 34, 35, 36, 37, 38, 39, 40, 41, 42, 43, 44, 45, 46, 47], [0, 1, 2, 3, 4, 5, 6, 7, 8, 9, 10, 11, 12, 13, 14, 15, 16, 17, 18, 19, 20, 21, 22, 23, 24, 25, 26, 27, 28, 29, 30, 31, 32, 33, 34, 35, 36, 37, 38, 39, 40, 41, 42, 43, 44, 45, 46, 47, 48], [0, 1, 2, 3, 4, 5, 6, 7, 8, 9, 10, 11, 12, 13, 14, 15, 16, 17, 18, 19, 20, 21, 22, 23, 24, 25, 26, 27, 28, 29, 30, 31, 32, 33, 34, 35, 36, 37, 38, 39, 40, 41, 42, 43, 44, 45, 46, 47, 48, 49], [0, 1, 2, 3, 4, 5, 6, 7, 8, 9, 10, 11, 12, 13, 14, 15, 16, 17, 18, 19, 20, 21, 22, 23, 24, 25, 26, 27, 28, 29, 30, 31, 32, 33, 34, 35, 36, 37, 38, 39, 40, 41, 42, 43, 44, 45, 46, 47, 48, 49, 50], [0, 1, 2, 3, 4, 5, 6, 7, 8, 9, 10, 11, 12, 13, 14, 15, 16, 17, 18, 19, 20, 21, 22, 23, 24, 25, 26, 27, 28, 29, 30, 31, 32, 33, 34, 35, 36, 37, 38, 39, 40, 41, 42, 43, 44, 45, 46, 47, 48, 49, 50, 51]] (by kernel_rfl) (by kernel_rfl) (by kernel_rfl) (by kernel_rfl) [3, 6, 7, 9, 10, 11, 82, 83, 84, 170] [2, 3] (by kernel_rfl)
                                              ⟨⟨⟨⟨⟨⟨⟨⟨⟨⟨⟨⟨⟨⟨⟨⟨⟨⟨⟨⟨⟨⟨⟨⟨⟨⟨⟨⟨⟨⟨⟨⟨⟨⟨⟨⟨⟨⟨⟨⟨⟨⟨⟨⟨⟨⟨⟨⟨⟨⟨⟨⟨⟨trivial,
                                              tri_quietW (fun β => []) [] [] (fun β => []) (by kernel_rfl) (fun β extra => by kernel_rfl) (by kernel_rfl) (fun β => trivial)⟩,
                                              tri_quietW (fun β => [(119, .bool false)]) [] [] (fun β => [(.bool false, .bool false)]) (by kernel_rfl) (fun β extra => by kernel_rfl) (by kernel_rfl) (fun β => ⟨rfl, trivial⟩)⟩,
                                              tri_quietW (fun β => []) [] [] (fun β => []) (by kernel_rfl) (fun β extra => by kernel_rfl) (by kernel_rfl) (fun β => trivial)⟩,
                                              tri_quietW (fun β => []) [] [] (fun β => []) (by kernel_rfl) (fun β extra => by kernel_rfl) (by kernel_rfl) (fun β => trivial)⟩,
                                              tri_quietW (fun β => [(122, .bool false)]) [] [] (fun β => [(.bool false, .bool false)]) (by kernel_rfl) (fun β extra => by kernel_rfl) (by kernel_rfl) (fun β => ⟨rfl, trivial⟩)⟩,
                                              tri_quietW (fun β => []) [] [] (fun β => []) (by kernel_rfl) (fun β extra => by kernel_rfl) (by kernel_rfl) (fun β => trivial)⟩,
                                              tri_quietW (fun β => []) [] [] (fun β => []) (by kernel_rfl) (fun β extra => by kernel_rfl) (by kernel_rfl) (fun β => trivial)⟩,
                                              tri_quietW (fun β => []) [] [] (fun β => []) (by kernel_rfl) (fun β extra => by kernel_rfl) (by kernel_rfl) (fun β => trivial)⟩,
                                              tri_quietW (fun β => [(126, .bool false)]) [] [] (fun β => [(.bool false, .bool false)]) (by kernel_rfl) (fun β extra => by kernel_rfl) (by kernel_rfl) (fun β => ⟨rfl, trivial⟩)⟩,
                                              tri_quietW (fun β => []) [] [] (fun β => []) (by kernel_rfl) (fun β extra => by kernel_rfl) (by kernel_rfl) (fun β => trivial)⟩,
                                              tri_quietW (fun β => []) [] [] (fun β => []) (by kernel_rfl) (fun β extra => by kernel_rfl) (by kernel_rfl) (fun β => trivial)⟩,
                                              tri_quietW (fun β => []) [] [] (fun β => []) (by kernel_rfl) (fun β extra => by kernel_rfl) (by kernel_rfl) (fun β => trivial)⟩,
                                              tri_quietW (fun β => []) [0] [0] (fun β => [(pA b3, pA b3)]) (by kernel_rfl) (fun β extra => by kernel_rfl) (by kernel_rfl) (fun β => ⟨rfl, trivial⟩)⟩,
                                              tri_callVW (fun β => .bool true) (fun β => by kernel_rfl) 25 (fun β => #[iV (elI (lnT T (p.n.N + 1)) j), .agg #[iV (p.n.out b j).1, iV (p.n.out b j).2]]) (by kernel_rfl) (fun β extra => by kernel_rfl) (fun β => by kernel_rfl) (fun β w1 k1 h1 => (by have h := inside_any (elI (lnT T (p.n.N + 1)) j) (p.n.out b j) w1; rw [hd5] at h; exact h))⟩,
                                              tri_quietW (fun β => [(132, .bool false)]) [] [] (fun β => [(.bool false, .bool false)]) (by kernel_rfl) (fun β extra => by kernel_rfl) (by kernel_rfl) (fun β => ⟨rfl, trivial⟩)⟩,
                                              tri_quietW (fun β => []) [] [] (fun β => []) (by kernel_rfl) (fun β extra => by kernel_rfl) (by kernel_rfl) (fun β => trivial)⟩,
                                              tri_quietW (fun β => []) [] [] (fun β => []) (by kernel_rfl) (fun β extra => by kernel_rfl) (by kernel_rfl) (fun β => trivial)⟩,
                                              tri_quietW (fun β => []) [] [] (fun β => []) (by kernel_rfl) (fun β extra => by kernel_rfl) (by kernel_rfl) (fun β => trivial)⟩,
                                              tri_quietW (fun β => []) [] [] (fun β => []) (by kernel_rfl) (fun β extra => by kernel_rfl) (by kernel_rfl) (fun β => trivial)⟩,
                                              tri_quietW (fun β => [(137, iV qn)]) [] [] (fun β => [(iV (IntKind.i64.wrap (elI (lnT T (p.n.N + 1)) j * gv)), iV qn)]) (by kernel_rfl) (fun β extra => by kernel_rfl) (by kernel_rfl) (fun β => ⟨((wr (by omega) (by omega)).trans (io hqn)), trivial⟩)⟩,
                                              tri_callVW (fun β => iV (dwn qn)) (fun β => by kernel_rfl) 26 (fun β => #[iV qn]) (by kernel_rfl) (fun β extra => by kernel_rfl) (fun β => by kernel_rfl) (fun β w1 k1 h1 => ldown_any qn (by omega) (by omega) w1)⟩,
                                              tri_quietW (fun β => []) [0] [0] (fun β => [(pA b4, pA b4)]) (by kernel_rfl) (fun β extra => by kernel_rfl) (by kernel_rfl) (fun β => ⟨rfl, trivial⟩)⟩,
                                              tri_callVW (fun β => .bool true) (fun β => by kernel_rfl) 25 (fun β => #[iV (dwn qn), .agg #[iV ((lonS (p.n.out b j) (elB p.bs b).2.2.2.2).1), iV ((lonS (p.n.out b j) (elB p.bs b).2.2.2.2).2)]]) (by kernel_rfl) (fun β extra => by kernel_rfl) (fun β => by kernel_rfl) (fun β w1 k1 h1 => (by have h := inside_any (dwn qn) (lonS (p.n.out b j) (elB p.bs b).2.2.2.2) w1; rw [hd6] at h; exact h))⟩,
                                              tri_quietW (fun β => [(141, .bool false)]) [] [] (fun β => [(.bool false, .bool false)]) (by kernel_rfl) (fun β extra => by kernel_rfl) (by kernel_rfl) (fun β => ⟨rfl, trivial⟩)⟩,
                                              tri_quietW (fun β => []) [] [] (fun β => []) (by kernel_rfl) (fun β extra => by kernel_rfl) (by kernel_rfl) (fun β => trivial)⟩,
                                              tri_quietW (fun β => []) [] [] (fun β => []) (by kernel_rfl) (fun β extra => by kernel_rfl) (by kernel_rfl) (fun β => trivial)⟩,
                                              tri_quietW (fun β => []) [] [] (fun β => []) (by kernel_rfl) (fun β extra => by kernel_rfl) (by kernel_rfl) (fun β => trivial)⟩,
                                              tri_quietW (fun β => [(145, .bool false)]) [] [] (fun β => [(.bool (jv == 2), .bool false)]) (by kernel_rfl) (fun β extra => by kernel_rfl) (by kernel_rfl) (fun β => ⟨(bo hd7), trivial⟩)⟩,
                                              tri_quietW (fun β => []) [] [] (fun β => []) (by kernel_rfl) (fun β extra => by kernel_rfl) (by kernel_rfl) (fun β => trivial)⟩,
                                              tri_quietW (fun β => []) [] [] (fun β => []) (by kernel_rfl) (fun β extra => by kernel_rfl) (by kernel_rfl) (fun β => trivial)⟩,
                                              tri_quietW (fun β => []) [] [] (fun β => []) (by kernel_rfl) (fun β extra => by kernel_rfl) (by kernel_rfl) (fun β => trivial)⟩,
                                              tri_quietW (fun β => []) [] [] (fun β => []) (by kernel_rfl) (fun β extra => by kernel_rfl) (by kernel_rfl) (fun β => trivial)⟩,
                                              tri_quietW (fun β => []) [] [] (fun β => []) (by kernel_rfl) (fun β extra => by kernel_rfl) (by kernel_rfl) (fun β => trivial)⟩,
                                              tri_quietW (fun β => []) [] [] (fun β => []) (by kernel_rfl) (fun β extra => by kernel_rfl) (by kernel_rfl) (fun β => trivial)⟩,
                                              tri_quietW (fun β => []) [] [] (fun β => []) (by kernel_rfl) (fun β extra => by kernel_rfl) (by kernel_rfl) (fun β => trivial)⟩,
                                              tri_quietW (fun β => [(153, .bool false)]) [] [] (fun β => [(.bool (jv == 0), .bool false)]) (by kernel_rfl) (fun β extra => by kernel_rfl) (by kernel_rfl) (fun β => ⟨(bo hd8), trivial⟩)⟩,
                                              tri_quietW (fun β => []) [] [] (fun β => []) (by kernel_rfl) (fun β extra => by kernel_rfl) (by kernel_rfl) (fun β => trivial)⟩,
                                              tri_quietW (fun β => []) [] [] (fun β => []) (by kernel_rfl) (fun β extra => by kernel_rfl) (by kernel_rfl) (fun β => trivial)⟩,
                                              tri_quietW (fun β => []) [] [] (fun β => []) (by kernel_rfl) (fun β extra => by kernel_rfl) (by kernel_rfl) (fun β => trivial)⟩,
                                              tri_quietW (fun β => []) [] [] (fun β => []) (by kernel_rfl) (fun β extra => by kernel_rfl) (by kernel_rfl) (fun β => trivial)⟩,
                                              tri_quietW (fun β => []) [] [] (fun β => []) (by kernel_rfl) (fun β extra => by kernel_rfl) (by kernel_rfl) (fun β => trivial)⟩,
                                              tri_quietW (fun β => []) [] [] (fun β => []) (by kernel_rfl) (fun β extra => by kernel_rfl) (by kernel_rfl) (fun β => trivial)⟩,
                                              tri_quietW (fun β => [(160, .bool false)]) [] [] (fun β => [(.bool (fe == 0), .bool false)]) (by kernel_rfl) (fun β extra => by kernel_rfl) (by kernel_rfl) (fun β => ⟨(bo hd9), trivial⟩)⟩,
                                              tri_quietW (fun β => []) [] [] (fun β => []) (by kernel_rfl) (fun β extra => by kernel_rfl) (by kernel_rfl) (fun β => trivial)⟩,
                                              tri_quietW (fun β => []) [] [] (fun β => []) (by kernel_rfl) (fun β extra => by kernel_rfl) (by kernel_rfl) (fun β => trivial)⟩,
                                              tri_quietW (fun β => []) [] [] (fun β => []) (by kernel_rfl) (fun β extra => by kernel_rfl) (by kernel_rfl) (fun β => trivial)⟩,
                                              tri_quietW (fun β => []) [] [] (fun β => []) (by kernel_rfl) (fun β extra => by kernel_rfl) (by kernel_rfl) (fun β => trivial)⟩,
                                              tri_quietW (fun β => []) [] [] (fun β => []) (by kernel_rfl) (fun β extra => by kernel_rfl) (by kernel_rfl) (fun β => trivial)⟩,
                                              tri_quietW (fun β => []) [] [] (fun β => []) (by kernel_rfl) (fun β extra => by kernel_rfl) (by kernel_rfl) (fun β => trivial)⟩,
                                              tri_quietW (fun β => []) [] [] (fun β => []) (by kernel_rfl) (fun β extra => by kernel_rfl) (by kernel_rfl) (fun β => trivial)⟩,
                                              tri_quietW (fun β => []) [] [] (fun β => []) (by kernel_rfl) (fun β extra => by kernel_rfl) (by kernel_rfl) (fun β => trivial)⟩,
                                              tri_quietW (fun β => []) [] [] (fun β => []) (by kernel_rfl) (fun β extra => by kernel_rfl) (by kernel_rfl) (fun β => trivial)⟩,
                                              tri_quietW (fun β => []) [] [] (fun β => []) (by kernel_rfl) (fun β extra => by kernel_rfl) (by kernel_rfl) (fun β => trivial)⟩
                                              (fun β => ⟨[(3, pA b1), (6, .bool false), (7, iV (b : Int)), (9, iV gv), (10, iV fv), (11, iV fe), (82, sV g2 (p.n.N + 1) cap2), (83, iV ((p.n.N + 1) : Int)), (84, iV (j : Int)), (170, .bool false)], [(g2, cO ((lnT T (p.n.N + 1)).flatMap inR ++ sp2) 3), (b1, aO #[.slice p.ba p.bs.length p.bc, iV p.near, iV p.last, .slice p.ta p.ts.length p.tc] 33)]⟩) (fun β => by kernel_rfl) (fun β5 => ?_)
                      refine run_auto [(171, iV ((j + 1 : Nat) : Int))] 7 [false] [] [3, 6, 7, 9, 10, 11, 82, 83, 84] [0, 1] (st' := ⟨[(3, pA b1), (6, .bool false), (7, iV (b : Int)), (9, iV gv), (10, iV fv), (11, iV fe), (82, sV g2 (p.n.N + 1) cap2), (83, iV ((p.n.N + 1) : Int)), (84, iV ((j + 1 : Nat) : Int))], [(g2, cO ((lnT T (p.n.N + 1)).flatMap inR ++ sp2) 3), (b1, aO #[.slice p.ba p.bs.length p.bc, iV p.near, iV p.last, .slice p.ta p.ts.length p.tc] 33)]⟩) (acc := [(iV (IntKind.i64.wrap ((j : Int) + 1)), iV ((j + 1 : Nat) : Int)), (.bool false, .bool false)]) (by kernel_rfl) (by kernel_rfl) ⟨(wr (by omega) (by omega)), rfl, trivial⟩ ?_
                      exact run_round (by kernel_rfl) (hJ0 (j + 1) (by omega) (by omega))
                    | true =>
                      have hp9 : fe = 0 := by simpa using hd9
                      cases hd10 : (decide (fv ≤ (j : Int))) with
                      | false =>
                        have hp10 := of_decide_eq_false hd10
                        refine drawW 53 [{ val := fun _ => iV 0, slots := [17] },
                                                  { val := fun _ => .bool false, slots := [118] },
                                                  { val := fun _ => .bool false, slots := [119] },
                                                  { val := fun _ => iV 0, slots := [19, 120] },
                                                  { val := fun _ => .bool false, slots := [120, 121] },
                                                  { val := fun _ => .bool false, slots := [120, 122] },
                                                  { val := fun _ => .bool false, slots := [123] },
                                                  { val := fun _ => iV 0, slots := [21, 124] },
                                                  { val := fun _ => .bool false, slots := [124, 125] },
                                                  { val := fun _ => .bool false, slots := [124, 126] },
                                                  { val := fun _ => .bool false, slots := [127] },
                                                  { val := fun _ => iV (elI (lnT T (p.n.N + 1)) j), slots := [15, 128] },
                                                  { val := fun _ => .agg #[iV (p.n.out b j).1, iV (p.n.out b j).2], slots := [16, 128], reads := [1] },
                                                  { val := fun _ => .bool true, slots := [128, 129, 130] },
                                                  { val := fun _ => .bool false, slots := [128, 131] },
                                                  { val := fun _ => .bool false, slots := [128, 132] },
                                                  { val := fun _ => .bool false, slots := [133] },
                                                  { val := fun _ => iV (elI (lnT T (p.n.N + 1)) j), slots := [15, 134] },
                                                  { val := fun _ => iV gv, slots := [9, 134] },
                                                  { val := fun _ => iV qn, slots := [134, 135, 136] },
                                                  { val := fun _ => iV (dwn qn), slots := [134, 137] },
                                                  { val := fun _ => .agg #[iV ((lonS (p.n.out b j) (elB p.bs b).2.2.2.2).1), iV ((lonS (p.n.out b j) (elB p.bs b).2.2.2.2).2)], slots := [18, 134], reads := [0] },
                                                  { val := fun _ => .bool true, slots := [134, 138, 139] },
                                                  { val := fun _ => .bool false, slots := [134, 140] },
                                                  { val := fun _ => .bool false, slots := [134, 141] },
                                                  { val := fun _ => .bool false, slots := [142] },
                                                  { val := fun _ => iV jv, slots := [20, 143] },
                                                  { val := fun _ => .bool false, slots := [143, 144] },
                                                  { val := fun _ => .bool false, slots := [143, 145] },
                                                  { slots := [146] },
                                                  { slots := [146] },
                                                  { val := fun _ => .bool false, slots := [143, 146, 148] },
                                                  { val := fun _ => .bool false, slots := [143, 149] },
                                                  { val := fun _ => .bool false, slots := [150] },
                                                  { val := fun _ => iV jv, slots := [20, 151] },
                                                  { val := fun _ => .bool false, slots := [151, 152] },
                                                  { val := fun _ => .bool false, slots := [151, 153] },
                                                  { slots := [154] },
                                                  { val := fun _ => .bool false, slots := [151, 154, 155] },
                                                  { val := fun _ => .bool false, slots := [151, 156] },
                                                  { val := fun _ => .bool false, slots := [157] },
                                                  { val := fun _ => iV fe, slots := [11, 158] },
                                                  { val := fun _ => .bool true, slots := [158, 159] },
                                                  { val := fun _ => .bool true, slots := [158, 160] },
                                                  { val := fun _ => iV (j : Int), slots := [14, 161] },
                                                  { val := fun _ => iV fv, slots := [10, 161] },
                                                  { val := fun _ => .bool false, slots := [161, 162, 163] },
                                                  { val := fun _ => .bool false, slots := [158, 161, 164] },
                                                  { val := fun _ => .bool false, slots := [158, 165] },
                                                  { slots := [166] },
                                                  { slots := [166] },
                                                  { val := fun _ => .bool false, slots := [158, 166, 168] },
                                                  { val := fun _ => .bool false, slots := [158, 169] }] [[], [0], [0, 1], [0, 1, 2], [0, 1, 2, 3], [0, 1, 2, 3, 4], [0, 1, 2, 3, 4, 5], [0, 1, 2, 3, 4, 5, 6], [0, 1, 2, 3, 4, 5, 6, 7], [0, 1, 2, 3, 4, 5, 6, 7, 8], [0, 1, 2, 3, 4, 5, 6, 7, 8, 9], [0, 1, 2, 3, 4, 5, 6, 7, 8, 9, 10], [0, 1, 2, 3, 4, 5, 6, 7, 8, 9, 10], [0, 1, 2, 3, 4, 5, 6, 7, 8, 9, 10, 11, 12], [0, 1, 2, 3, 4, 5, 6, 7, 8, 9, 10, 11, 12, 13], [0, 1, 2, 3, 4, 5, 6, 7, 8, 9, 10, 11, 12, 13, 14], [0, 1, 2, 3, 4, 5, 6, 7, 8, 9, 10, 11, 12, 13, 14, 15], [0, 1, 2, 3, 4, 5, 6, 7, 8, 9, 10, 11, 12, 13, 14, 15, 16], [0, 1, 2, 3, 4, 5, 6, 7, 8, 9, 10, 11, 12, 13, 14, 15, 16], [0, 1, 2, 3, 4, 5, 6, 7, 8, 9, 10, 11, 12, 13, 14, 15, 16, 17, 18], [0, 1, 2, 3, 4, 5, 6, 7, 8, 9, 10, 11, 12, 13, 14, 15, 16, 17, 18, 19], [0, 1, 2, 3, 4, 5, 6, 7, 8, 9, 10, 11, 12, 13, 14, 15, 16], [0, 1, 2, 3, 4, 5, 6, 7, 8, 9, 10, 11, 12, 13, 14, 15, 16, 17, 18, 19, 20, 21], [0, 1, 2, 3, 4, 5, 6, 7, 8, 9, 10, 11, 12, 13, 14, 15, 16, 17, 18, 19, 20, 21, 22], [0, 1, 2, 3, 4, 5, 6, 7, 8, 9, 10, 11, 12, 13, 14, 15, 16, 17, 18, 19, 20, 21, 22, 23], [0, 1, 2, 3, 4, 5, 6, 7, 8, 9, 10, 11, 12, 13, 14, 15, 16, 17, 18, 19, 20, 21, 22, 23, 24], [0, 1, 2, 3, 4, 5, 6, 7, 8, 9, 10, 11, 12, 13, 14, 15, 16, 17, 18, 19, 20, 21, 22, 23, 24, 25], [0, 1, 2, 3, 4, 5, 6, 7, 8, 9, 10, 11, 12, 13, 14, 15, 16, 17, 18, 19, 20, 21, 22, 23, 24, 25, 26], [0, 1, 2, 3, 4, 5, 6, 7, 8, 9, 10, 11, 12, 13, 14, 15, 16, 17, 18, 19, 20, 21, 22, 23, 24, 25, 26, 27], [0, 1, 2, 3, 4, 5, 6, 7, 8, 9, 10, 11, 12, 13, 14, 15, 16, 17, 18, 19, 20, 21, 22, 23, 24, 25, 26, 27, 28], [0, 1, 2, 3, 4, 5, 6, 7, 8, 9, 10, 11, 12, 13, 14, 15, 16, 17, 18, 19, 20, 21, 22, 23, 24, 25, 26, 27, 28, 29], [0, 1, 2, 3, 4, 5, 6, 7, 8, 9, 10, 11, 12, 13, 14, 15, 16, 17, 18, 19, 20, 21, 22, 23, 24, 25, 26, 27, 28, 29, 30], [0, 1, 2, 3, 4, 5, 6, 7, 8, 9, 10, 11, 12, 13, 14, 15, 16, 17, 18, 19, 20, 21, 22, 23, 24, 25, 26, 27, 28, 29, 30, 31], [0, 1, 2, 3, 4, 5, 6, 7, 8, 9, 10, 11, 12, 13, 14, 15, 16, 17, 18, 19, 20, 21, 22, 23, 24, 25, 26, 27, 28, 29, 30, 31, 32], [0, 1, 2, 3, 4, 5, 6, 7, 8, 9, 10, 11, 12, 13, 14, 15, 16, 17, 18, 19, 20, 21, 22, 23, 24, 25, 26, 27, 28, 29, 30, 31, 32, 33], [0, 1, 2, 3, 4, 5, 6, 7, 8, 9, 10, 11, 12, 13, 14, 15, 16, 17, 18, 19, 20, 21, 22, 23, 24, 25, 26, 27, 28, 29, 30, 31, 32, 33, 34], [0, 1, 2, 3, 4, 5, 6, 7, 8, 9, 10, 11, 12, 13, 14, 15, 16, 17, 18, 19, 20, 21, 22, 23, 24, 25, 26, 27, 28, 29, 30, 31, 32, 33, 34, 35], [0, 1, 2, 3, 4, 5, 6, 7, 8, 9, 10, 11, 12, 13, 14, 15, 16, 17, 18, 19, 20, 21, 22, 23, 24, 25, 26, 27, 28, 29, 30, 31, 32, 33, 34, 35, 36], [0, 1, 2, 3, 4, 5, 6, 7, 8, 9, 10, 11, 12, 13, 14, 15, 16, 17, 18, 19, 20, 21, 22, 23, 24, 25, 26, 27, 28, 29, 30, 31, 32, 33, 34, 35, 36, 37], [0, 1, 2, 3, 4, 5, 6, 7, 8, 9, 10, 11, 12, 13, 14, 15, 16, 17, 18, 19, 20, 21, 22, 23, 24, 25, 26, 27, 28, 29, 30, 31, 32, 33, 34, 35, 36, 37, 38], [0, 1, 2, 3, 4, 5, 6, 7, 8, 9, 10, 11, 12, 13, 14, 15, 16, 17, 18, 19, 20, 21, 22, 23, 24, 25, 26, 27, 28, 29, 30, 31, 32, 33, 34, 35, 36, 37, 38, 39], [0, 1, 2, 3, 4, 5, 6, 7, 8, 9, 10, 11, 12, 13, 14, 15, 16, 17, 18, 19, 20, 21, 22, 23, 24, 25, 26, 27, 28, 29, 30, 31, 32, 33, 34, 35, 36, 37, 38, 39, 40], [0, 1, 2, 3, 4, 5, 6, 7, 8, 9, 10, 11, 12, 13, 14, 15, 16, 17, 18, 19, 20, 21, 22, 23, 24, 25, 26, 27, 28, 29, 30, 31, 32, 33, 34, 35, 36, 37, 38, 39, 40, 41], [0, 1, 2, 3, 4, 5, 6, 7, 8, 9, 10, 11, 12, 13, 14, 15, 16, 17, 18, 19, 20, 21, 22, 23, 24, 25, 26, 27, 28, 29, 30, 31, 32, 33, 34, 35, 36, 37, 38, 39, 40, 41, 42], [0, 1, 2, 3, 4, 5, 6, 7, 8, 9, 10, 11, 12, 13, 14, 15, 16, 17, 18, 19, 20, 21, 22, 23, 24, 25, 26, 27, 28, 29, 30, 31, 32, 33, 34, 35, 36, 37, 38, 39, 40, 41, 42, 43], [0, 1, 2, 3, 4, 5, 6, 7, 8, 9, 10, 11, 12, 13, 14, 15, 16, 17, 18, 19, 20, 21, 22, 23, 24, 25, 26, 27, 28, 29, 30, 31, 32, 33, 34, 35, 36, 37, 38, 39, 40, 41, 42, 43], [0, 1, 2, 3, 4, 5, 6, 7, 8, 9, 10, 11, 12, 13, 14, 15, 16, 17, 18, 19, 20, 21, 22, 23, 24, 25, 26, 27, 28, 29, 30, 31, 32, 33, 34, 35, 36, 37, 38, 39, 40, 41, 42, 43, 44, 45], [0, 1, 2, 3, 4, 5, 6, 7, 8, 9, 10, 11, 12, 13, 14, 15, 16, 17, 18, 19, 20, 21, 22, 23, 24, 25, 26, 27, 28, 29, 30, 31, 32, 33, 34, 35, 36, 37, 38, 39, 40, 41, 42, 43, 44, 45, 46], [0, 1, 2, 3, 4, 5, 6, 7, 8, 9, 10, 11, 12, 13, 14, 15, 16, 17, 18, 19, 20, 21, 22, 23, 24, 25, 26, 27, 28, 29, 30, 31, 32, 33, 34, 35, 36, 37, 38, 39, 40, 41, 42, 43, 44, 45, 46, 47], [0, 1, 2, 3, 4, 5, 6, 7, 8, 9, 10, 11, 12, 13, 14, 15, 16, 17, 18, 19, 20, 21, 22, 23, 24, 25, 26, 27, 28, 29, 30, 31, 32, 33, 34, 35, 36, 37, 38, 39, 40, 41, 42, 43, 44, 45, 46, 47, 48], [0, 1, 2, 3, 4, 5, 6, 7, 8, 9, 10, 11, 12, 13, 14, 15, 16, 17, 18, 19, 20, 21, 22, 23, 24, 25, 26, 27, 28, 29, 30, 31, 32, 33, 34, 35, 36, 37, 38, 39, 40, 41, 42, 43, 44, 45, 46, 47, 48, 49], [0, 1, 2, 3, 4, 5, 6, 7, 8, 9, 10, 11, 12, 13, 14, 15, 16, 17, 18, 19, 20, 21, 22, 23, 24, 25, 26, 27, 28, 29, 30, 31, 32, 33, 34, 35, 36, 37, 38, 39, 40, 41, 42, 43, 44, 45, 46, 47, 48, 49, 50], [0, 1, 2, 3, 4, 5, 6, 7, 8, 9, 10, 11, 12, 13, 14, 15, 16, 17, 18, 19, 20, 21, 22, 23, 24, 25, 26, 27, 28, 29, 30, 31, 32, 33, 34, 35, 36, 37, 38, 39, 40, 41, 42, 43, 44, 45, 46, 47, 48, 49, 50, 51]] (by kernel_rfl) (by kernel_rfl) (by kernel_rfl) (by kernel_rfl) [3, 6, 7, 9, 10, 11, 82, 83, 84, 170] [2, 3] (by kernel_rfl)
                                                  ⟨⟨⟨⟨⟨⟨⟨⟨⟨⟨⟨⟨⟨⟨⟨⟨⟨⟨⟨⟨⟨⟨⟨⟨⟨⟨⟨⟨⟨⟨⟨⟨⟨⟨⟨⟨⟨⟨⟨⟨⟨⟨⟨⟨⟨⟨⟨⟨⟨⟨⟨⟨⟨trivial,
                                                  tri_quietW (fun β => []) [] [] (fun β => []) (by kernel_rfl) (fun β extra => by kernel_rfl) (by kernel_rfl) (fun β => trivial)⟩,
                                                  tri_quietW (fun β => [(119, .bool false)]) [] [] (fun β => [(.bool false, .bool false)]) (by kernel_rfl) (fun β extra => by kernel_rfl) (by kernel_rfl) (fun β => ⟨rfl, trivial⟩)⟩,
                                                  tri_quietW (fun β => []) [] [] (fun β => []) (by kernel_rfl) (fun β extra => by kernel_rfl) (by kernel_rfl) (fun β => trivial)⟩,
                                                  tri_quietW (fun β => []) [] [] (fun β => []) (by kernel_rfl) (fun β extra => by kernel_rfl) (by kernel_rfl) (fun β => trivial)⟩,
                                                  tri_quietW (fun β => [(122, .bool false)]) [] [] (fun β => [(.bool false, .bool false)]) (by kernel_rfl) (fun β extra => by kernel_rfl) (by kernel_rfl) (fun β => ⟨rfl, trivial⟩)⟩,
                                                  tri_quietW (fun β => []) [] [] (fun β => []) (by kernel_rfl) (fun β extra => by kernel_rfl) (by kernel_rfl) (fun β => trivial)⟩,
                                                  tri_quietW (fun β => []) [] [] (fun β => []) (by kernel_rfl) (fun β extra => by kernel_rfl) (by kernel_rfl) (fun β => trivial)⟩,
                                                  tri_quietW (fun β => []) [] [] (fun β => []) (by kernel_rfl) (fun β extra => by kernel_rfl) (by kernel_rfl) (fun β => trivial)⟩,
                                                  tri_quietW (fun β => [(126, .bool false)]) [] [] (fun β => [(.bool false, .bool false)]) (by kernel_rfl) (fun β extra => by kernel_rfl) (by kernel_rfl) (fun β => ⟨rfl, trivial⟩)⟩,
                                                  tri_quietW (fun β => []) [] [] (fun β => []) (by kernel_rfl) (fun β extra => by kernel_rfl) (by kernel_rfl) (fun β => trivial)⟩,
                                                  tri_quietW (fun β => []) [] [] (fun β => []) (by kernel_rfl) (fun β extra => by kernel_rfl) (by kernel_rfl) (fun β => trivial)⟩,
                                                  tri_quietW (fun β => []) [] [] (fun β => []) (by kernel_rfl) (fun β extra => by kernel_rfl) (by kernel_rfl) (fun β => trivial)⟩,
                                                  tri_quietW (fun β => []) [0] [0] (fun β => [(pA b3, pA b3)]) (by kernel_rfl) (fun β extra => by kernel_rfl) (by kernel_rfl) (fun β => ⟨rfl, trivial⟩)⟩,
                                                  tri_callVW (fun β => .bool true) (fun β => by kernel_rfl) 25 (fun β => #[iV (elI (lnT T (p.n.N + 1)) j), .agg #[iV (p.n.out b j).1, iV (p.n.out b j).2]]) (by kernel_rfl) (fun β extra => by kernel_rfl) (fun β => by kernel_rfl) (fun β w1 k1 h1 => (by have h := inside_any (elI (lnT T (p.n.N + 1)) j) (p.n.out b j) w1; rw [hd5] at h; exact h))⟩,
                                                  tri_quietW (fun β => [(132, .bool false)]) [] [] (fun β => [(.bool false, .bool false)]) (by kernel_rfl) (fun β extra => by kernel_rfl) (by kernel_rfl) (fun β => ⟨rfl, trivial⟩)⟩,
                                                  tri_quietW (fun β => []) [] [] (fun β => []) (by kernel_rfl) (fun β extra => by kernel_rfl) (by kernel_rfl) (fun β => trivial)⟩,
                                                  tri_quietW (fun β => []) [] [] (fun β => []) (by kernel_rfl) (fun β extra => by kernel_rfl) (by kernel_rfl) (fun β => trivial)⟩,
                                                  tri_quietW (fun β => []) [] [] (fun β => []) (by kernel_rfl) (fun β extra => by kernel_rfl) (by kernel_rfl) (fun β => trivial)⟩,
                                                  tri_quietW (fun β => []) [] [] (fun β => []) (by kernel_rfl) (fun β extra => by kernel_rfl) (by kernel_rfl) (fun β => trivial)⟩,
                                                  tri_quietW (fun β => [(137, iV qn)]) [] [] (fun β => [(iV (IntKind.i64.wrap (elI (lnT T (p.n.N + 1)) j * gv)), iV qn)]) (by kernel_rfl) (fun β extra => by kernel_rfl) (by kernel_rfl) (fun β => ⟨((wr (by omega) (by omega)).trans (io hqn)), trivial⟩)⟩,
                                                  tri_callVW (fun β => iV (dwn qn)) (fun β => by kernel_rfl) 26 (fun β => #[iV qn]) (by kernel_rfl) (fun β extra => by kernel_rfl) (fun β => by kernel_rfl) (fun β w1 k1 h1 => ldown_any qn (by omega) (by omega) w1)⟩,
                                                  tri_quietW (fun β => []) [0] [0] (fun β => [(pA b4, pA b4)]) (by kernel_rfl) (fun β extra => by kernel_rfl) (by kernel_rfl) (fun β => ⟨rfl, trivial⟩)⟩,
                                                  tri_callVW (fun β => .bool true) (fun β => by kernel_rfl) 25 (fun β => #[iV (dwn qn), .agg #[iV ((lonS (p.n.out b j) (elB p.bs b).2.2.2.2).1), iV ((lonS (p.n.out b j) (elB p.bs b).2.2.2.2).2)]]) (by kernel_rfl) (fun β extra => by kernel_rfl) (fun β => by kernel_rfl) (fun β w1 k1 h1 => (by have h := inside_any (dwn qn) (lonS (p.n.out b j) (elB p.bs b).2.2.2.2) w1; rw [hd6] at h; exact h))⟩,
                                                  tri_quietW (fun β => [(141, .bool false)]) [] [] (fun β => [(.bool false, .bool false)]) (by kernel_rfl) (fun β extra => by kernel_rfl) (by kernel_rfl) (fun β => ⟨rfl, trivial⟩)⟩,
                                                  tri_quietW (fun β => []) [] [] (fun β => []) (by kernel_rfl) (fun β extra => by kernel_rfl) (by kernel_rfl) (fun β => trivial)⟩,
                                                  tri_quietW (fun β => []) [] [] (fun β => []) (by kernel_rfl) (fun β extra => by kernel_rfl) (by kernel_rfl) (fun β => trivial)⟩,
                                                  tri_quietW (fun β => []) [] [] (fun β => []) (by kernel_rfl) (fun β extra => by kernel_rfl) (by kernel_rfl) (fun β => trivial)⟩,
                                                  tri_quietW (fun β => [(145, .bool false)]) [] [] (fun β => [(.bool (jv == 2), .bool false)]) (by kernel_rfl) (fun β extra => by kernel_rfl) (by kernel_rfl) (fun β => ⟨(bo hd7), trivial⟩)⟩,
                                                  tri_quietW (fun β => []) [] [] (fun β => []) (by kernel_rfl) (fun β extra => by kernel_rfl) (by kernel_rfl) (fun β => trivial)⟩,
                                                  tri_quietW (fun β => []) [] [] (fun β => []) (by kernel_rfl) (fun β extra => by kernel_rfl) (by kernel_rfl) (fun β => trivial)⟩,
                                                  tri_quietW (fun β => []) [] [] (fun β => []) (by kernel_rfl) (fun β extra => by kernel_rfl) (by kernel_rfl) (fun β => trivial)⟩,
                                                  tri_quietW (fun β => []) [] [] (fun β => []) (by kernel_rfl) (fun β extra => by kernel_rfl) (by kernel_rfl) (fun β => trivial)⟩,
                                                  tri_quietW (fun β => []) [] [] (fun β => []) (by kernel_rfl) (fun β extra => by kernel_rfl) (by kernel_rfl) (fun β => trivial)⟩,
                                                  tri_quietW (fun β => []) [] [] (fun β => []) (by kernel_rfl) (fun β extra => by kernel_rfl) (by kernel_rfl) (fun β => trivial)⟩,
                                                  tri_quietW (fun β => []) [] [] (fun β => []) (by kernel_rfl) (fun β extra => by kernel_rfl) (by kernel_rfl) (fun β => trivial)⟩,
                                                  tri_quietW (fun β => [(153, .bool false)]) [] [] (fun β => [(.bool (jv == 0), .bool false)]) (by kernel_rfl) (fun β extra => by kernel_rfl) (by kernel_rfl) (fun β => ⟨(bo hd8), trivial⟩)⟩,
                                                  tri_quietW (fun β => []) [] [] (fun β => []) (by kernel_rfl) (fun β extra => by kernel_rfl) (by kernel_rfl) (fun β => trivial)⟩,
                                                  tri_quietW (fun β => []) [] [] (fun β => []) (by kernel_rfl) (fun β extra => by kernel_rfl) (by kernel_rfl) (fun β => trivial)⟩,
                                                  tri_quietW (fun β => []) [] [] (fun β => []) (by kernel_rfl) (fun β extra => by kernel_rfl) (by kernel_rfl) (fun β => trivial)⟩,
                                                  tri_quietW (fun β => []) [] [] (fun β => []) (by kernel_rfl) (fun β extra => by kernel_rfl) (by kernel_rfl) (fun β => trivial)⟩,
                                                  tri_quietW (fun β => []) [] [] (fun β => []) (by kernel_rfl) (fun β extra => by kernel_rfl) (by kernel_rfl) (fun β => trivial)⟩,
                                                  tri_quietW (fun β => []) [] [] (fun β => []) (by kernel_rfl) (fun β extra => by kernel_rfl) (by kernel_rfl) (fun β => trivial)⟩,
                                                  tri_quietW (fun β => [(160, .bool true)]) [] [] (fun β => [(.bool (fe == 0), .bool true)]) (by kernel_rfl) (fun β extra => by kernel_rfl) (by kernel_rfl) (fun β => ⟨(bo hd9), trivial⟩)⟩,
                                                  tri_quietW (fun β => []) [] [] (fun β => []) (by kernel_rfl) (fun β extra => by kernel_rfl) (by kernel_rfl) (fun β => trivial)⟩,
                                                  tri_quietW (fun β => []) [] [] (fun β => []) (by kernel_rfl) (fun β extra => by kernel_rfl) (by kernel_rfl) (fun β => trivial)⟩,
                                                  tri_quietW (fun β => []) [] [] (fun β => []) (by kernel_rfl) (fun β extra => by kernel_rfl) (by kernel_rfl) (fun β => trivial)⟩,
                                                  tri_quietW (fun β => [(164, .bool false)]) [] [] (fun β => [(.bool (decide (fv ≤ (j : Int))), .bool false)]) (by kernel_rfl) (fun β extra => by kernel_rfl) (by kernel_rfl) (fun β => ⟨(bo hd10), trivial⟩)⟩,
                                                  tri_quietW (fun β => []) [] [] (fun β => []) (by kernel_rfl) (fun β extra => by kernel_rfl) (by kernel_rfl) (fun β => trivial)⟩,
                                                  tri_quietW (fun β => []) [] [] (fun β => []) (by kernel_rfl) (fun β extra => by kernel_rfl) (by kernel_rfl) (fun β => trivial)⟩,
                                                  tri_quietW (fun β => []) [] [] (fun β => []) (by kernel_rfl) (fun β extra => by kernel_rfl) (by kernel_rfl) (fun β => trivial)⟩,
                                                  tri_quietW (fun β => []) [] [] (fun β => []) (by kernel_rfl) (fun β extra => by kernel_rfl) (by kernel_rfl) (fun β => trivial)⟩,
                                                  tri_quietW (fun β => []) [] [] (fun β => []) (by kernel_rfl) (fun β extra => by kernel_rfl) (by kernel_rfl) (fun β => trivial)⟩,
                                                  tri_quietW (fun β => []) [] [] (fun β => []) (by kernel_rfl) (fun β extra => by kernel_rfl) (by kernel_rfl) (fun β => trivial)⟩
                                                  (fun β => ⟨[(3, pA b1), (6, .bool false), (7, iV (b : Int)), (9, iV gv), (10, iV fv), (11, iV fe), (82, sV g2 (p.n.N + 1) cap2), (83, iV ((p.n.N + 1) : Int)), (84, iV (j : Int)), (170, .bool false)], [(g2, cO ((lnT T (p.n.N + 1)).flatMap inR ++ sp2) 3), (b1, aO #[.slice p.ba p.bs.length p.bc, iV p.near, iV p.last, .slice p.ta p.ts.length p.tc] 33)]⟩) (fun β => by kernel_rfl) (fun β5 => ?_)
                        refine run_auto [(171, iV ((j + 1 : Nat) : Int))] 7 [false] [] [3, 6, 7, 9, 10, 11, 82, 83, 84] [0, 1] (st' := ⟨[(3, pA b1), (6, .bool false), (7, iV (b : Int)), (9, iV gv), (10, iV fv), (11, iV fe), (82, sV g2 (p.n.N + 1) cap2), (83, iV ((p.n.N + 1) : Int)), (84, iV ((j + 1 : Nat) : Int))], [(g2, cO ((lnT T (p.n.N + 1)).flatMap inR ++ sp2) 3), (b1, aO #[.slice p.ba p.bs.length p.bc, iV p.near, iV p.last, .slice p.ta p.ts.length p.tc] 33)]⟩) (acc := [(iV (IntKind.i64.wrap ((j : Int) + 1)), iV ((j + 1 : Nat) : Int)), (.bool false, .bool false)]) (by kernel_rfl) (by kernel_rfl) ⟨(wr (by omega) (by omega)), rfl, trivial⟩ ?_
                        exact run_round (by kernel_rfl) (hJ0 (j + 1) (by omega) (by omega))
                      | true =>
                        have hp10 := of_decide_eq_true hd10
                        exfalso
                        omega
                  | true =>
                    have hp8 : jv = 0 := by simpa using hd8
                    cases hd9 : (fe == 0) with
                    | false =>
                      have hp9 : ¬ fe = 0 := by simpa using hd9
                      refine drawW 53 [{ val := fun _ => iV 0, slots := [17] },
                                              { val := fun _ => .bool false, slots := [118] },
                                              { val := fun _ => .bool false, slots := [119] },
                                              { val := fun _ => iV 0, slots := [19, 120] },
                                              { val := fun _ => .bool false, slots := [120, 121] },
                                              { val := fun _ => .bool false, slots := [120, 122] },
                                              { val := fun _ => .bool false, slots := [123] },
                                              { val := fun _ => iV 0, slots := [21, 124] },
                                              { val := fun _ => .bool false, slots := [124, 125] },
                                              { val := fun _ => .bool false, slots := [124, 126] },
                                              { val := fun _ => .bool false, slots := [127] },
                                              { val := fun _ => iV (elI (lnT T (p.n.N + 1)) j), slots := [15, 128] },
                                              { val := fun _ => .agg #[iV (p.n.out b j).1, iV (p.n.out b j).2], slots := [16, 128], reads := [1] },
                                              { val := fun _ => .bool true, slots := [128, 129, 130] },
                                              { val := fun _ => .bool false, slots := [128, 131] },
                                              { val := fun _ => .bool false, slots := [128, 132] },
                                              { val := fun _ => .bool false, slots := [133] },
                                              { val := fun _ => iV (elI (lnT T (p.n.N + 1)) j), slots := [15, 134] },
                                              { val := fun _ => iV gv, slots := [9, 134] },
                                              { val := fun _ => iV qn, slots := [134, 135, 136] },
                                              { val := fun _ => iV (dwn qn), slots := [134, 137] },
                                              { val := fun _ => .agg #[iV ((lonS (p.n.out b j) (elB p.bs b).2.2.2.2).1), iV ((lonS (p.n.out b j) (elB p.bs b).2.2.2.2).2)], slots := [18, 134], reads := [0] },
                                              { val := fun _ => .bool true, slots := [134, 138, 139] },
                                              { val := fun _ => .bool false, slots := [134, 140] },
                                              { val := fun _ => .bool false, slots := [134, 141] },
                                              { val := fun _ => .bool false, slots := [142] },
                                              { val := fun _ => iV jv, slots := [20, 143] },
                                              { val := fun _ => .bool false, slots := [143, 144] },
                                              { val := fun _ => .bool false, slots := [143, 145] },
                                              { slots := [146] },
                                              { slots := [146] },
                                              { val := fun _ => .bool false, slots := [143, 146, 148] },
                                              { val := fun _ => .bool false, slots := [143, 149] },
                                              { val := fun _ => .bool false, slots := [150] },
                                              { val := fun _ => iV jv, slots := [20, 151] },
                                              { val := fun _ => .bool true, slots := [151, 152] },
                                              { val := fun _ => .bool true, slots := [151, 153] },
                                              { val := fun _ => .bool false, slots := [22, 154] },
                                              { val := fun _ => .bool false, slots := [151, 154, 155] },
                                              { val := fun _ => .bool false, slots := [151, 156] },
                                              { val := fun _ => .bool false, slots := [157] },
                                              { val := fun _ => iV fe, slots := [11, 158] },
                                              { val := fun _ => .bool false, slots := [158, 159] },
                                              { val := fun _ => .bool false, slots := [158, 160] },
                                              { slots := [161] },
                                              { slots := [161] },
                                              { slots := [161] },
                                              { val := fun _ => .bool false, slots := [158, 161, 164] },
                                              { val := fun _ => .bool false, slots := [158, 165] },
                                              { slots := [166] },
                                              { slots := [166] },
                                              { val := fun _ => .bool false, slots := [158, 166, 168] },
                                              { val := fun _ => .bool false, slots := [158, 169] }] [[], [0], [0, 1], [0, 1, 2], [0, 1, 2, 3], [0, 1, 2, 3, 4], [0, 1, 2, 3, 4, 5], [0, 1, 2, 3, 4, 5, 6], [0, 1, 2, 3, 4, 5, 6, 7], [0, 1, 2, 3, 4, 5, 6, 7, 8], [0, 1, 2, 3, 4, 5, 6, 7, 8, 9], [0, 1, 2, 3, 4, 5, 6, 7, 8, 9, 10], [0, 1, 2, 3, 4, 5, 6, 7, 8, 9, 10], [0, 1, 2, 3, 4, 5, 6, 7, 8, 9, 10, 11, 12], [0, 1, 2, 3, 4, 5, 6, 7, 8, 9, 10, 11, 12, 13], [0, 1, 2, 3, 4, 5, 6, 7, 8, 9, 10, 11, 12, 13, 14], [0, 1, 2, 3, 4, 5, 6, 7, 8, 9, 10, 11, 12, 13, 14, 15], [0, 1, 2, 3, 4, 5, 6, 7, 8, 9, 10, 11, 12, 13, 14, 15, 16], [0, 1, 2, 3, 4, 5, 6, 7, 8, 9, 10, 11, 12, 13, 14, 15, 16], [0, 1, 2, 3, 4, 5, 6, 7, 8, 9, 10, 11, 12, 13, 14, 15, 16, 17, 18], [0, 1, 2, 3, 4, 5, 6, 7, 8, 9, 10, 11, 12, 13, 14, 15, 16, 17, 18, 19], [0, 1, 2, 3, 4, 5, 6, 7, 8, 9, 10, 11, 12, 13, 14, 15, 16], [0, 1, 2, 3, 4, 5, 6, 7, 8, 9, 10, 11, 12, 13, 14, 15, 16, 17, 18, 19, 20, 21], [0, 1, 2, 3, 4, 5, 6, 7, 8, 9, 10, 11, 12, 13, 14, 15, 16, 17, 18, 19, 20, 21, 22], [0, 1, 2, 3, 4, 5, 6, 7, 8, 9, 10, 11, 12, 13, 14, 15, 16, 17, 18, 19, 20, 21, 22, 23], [0, 1, 2, 3, 4, 5, 6, 7, 8, 9, 10, 11, 12, 13, 14, 15, 16, 17, 18, 19, 20, 21, 22, 23, 24], [0, 1, 2, 3, 4, 5, 6, 7, 8, 9, 10, 11, 12, 13, 14, 15, 16, 17, 18, 19, 20, 21, 22, 23, 24, 25], [0, 1, 2, 3, 4, 5, 6, 7, 8, 9, 10, 11, 12, 13, 14, 15, 16, 17, 18, 19, 20, 21, 22, 23, 24, 25, 26], [0, 1, 2, 3, 4, 5, 6, 7, 8, 9, 10, 11, 12, 13, 14, 15, 16, 17, 18, 19, 20, 21, 22, 23, 24, 25, 26, 27], [0, 1, 2, 3, 4, 5, 6, 7, 8, 9, 10, 11, 12, 13, 14, 15, 16, 17, 18, 19, 20, 21, 22, 23, 24, 25, 26, 27, 28], [0, 1, 2, 3, 4, 5, 6, 7, 8, 9, 10, 11, 12, 13, 14, 15, 16, 17, 18, 19, 20, 21, 22, 23, 24, 25, 26, 27, 28, 29], [0, 1, 2, 3, 4, 5, 6, 7, 8, 9, 10, 11, 12, 13, 14, 15, 16, 17, 18, 19, 20, 21, 22, 23, 24, 25, 26, 27, 28, 29, 30], [0, 1, 2, 3, 4, 5, 6, 7, 8, 9, 10, 11, 12, 13, 14, 15, 16, 17, 18, 19, 20, 21, 22, 23, 24, 25, 26, 27, 28, 29, 30, 31], [0, 1, 2, 3, 4, 5, 6, 7, 8, 9, 10, 11, 12, 13, 14, 15, 16, 17, 18, 19, 20, 21, 22, 23, 24, 25, 26, 27, 28, 29, 30, 31, 32], [0, 1, 2, 3, 4, 5, 6, 7, 8, 9, 10, 11, 12, 13, 14, 15, 16, 17, 18, 19, 20, 21, 22, 23, 24, 25, 26, 27, 28, 29, 30, 31, 32, 33], [0, 1, 2, 3, 4, 5, 6, 7, 8, 9, 10, 11, 12, 13, 14, 15, 16, 17, 18, 19, 20, 21, 22, 23, 24, 25, 26, 27, 28, 29, 30, 31, 32, 33, 34], [0, 1, 2, 3, 4, 5, 6, 7, 8, 9, 10, 11, 12, 13, 14, 15, 16, 17, 18, 19, 20, 21, 22, 23, 24, 25, 26, 27, 28, 29, 30, 31, 32, 33, 34, 35], [0, 1, 2, 3, 4, 5, 6, 7, 8, 9, 10, 11, 12, 13, 14, 15, 16, 17, 18, 19, 20, 21, 22, 23, 24, 25, 26, 27, 28, 29, 30, 31, 32, 33, 34, 35, 36], [0, 1, 2, 3, 4, 5, 6, 7, 8, 9, 10, 11, 12, 13, 14, 15, 16, 17, 18, 19, 20, 21, 22, 23, 24, 25, 26, 27, 28, 29, 30, 31, 32, 33, 34, 35, 36, 37], [0, 1, 2, 3, 4, 5, 6, 7, 8, 9, 10, 11, 12, 13, 14, 15, 16, 17, 18, 19, 20, 21, 22, 23, 24, 25, 26, 27, 28, 29, 30, 31, 32, 33, 34, 35, 36, 37, 38], [0, 1, 2, 3, 4, 5, 6, 7, 8, 9, 10, 11, 12, 13, 14, 15, 16, 17, 18, 19, 20, 21, 22, 23, 24, 25, 26, 27, 28, 29, 30, 31, 32, 33, 34, 35, 36, 37, 38, 39], [0, 1, 2, 3, 4, 5, 6, 7, 8, 9, 10, 11, 12, 13, 14, 15, 16, 17, 18, 19, 20, 21, 22, 23, 24, 25, 26, 27, 28, 29, 30, 31, 32, 33, 34, 35, 36, 37, 38, 39, 40], [0, 1, 2, 3, 4, 5, 6, 7, 8, 9, 10, 11, 12, 13, 14, 15, 16, 17, 18, 19, 20, 21, 22, 23, 24, 25, 26, 27, 28, 29, 30, 31, 32, 33, 34, 35, 36, 37, 38, 39, 40, 41], [0, 1, 2, 3, 4, 5, 6, 7, 8, 9, 10, 11, 12, 13, 14, 15, 16, 17, 18, 19, 20, 21, 22, 23, 24, 25, 26, 27, 28, 29, 30, 31, 32, 33, 34, 35, 36, 37, 38, 39, 40, 41, 42], [0, 1, 2, 3, 4, 5, 6, 7, 8, 9, 10, 11, 12, 13, 14, 15, 16, 17, 18, 19, 20, 21, 22, 23, 24, 25, 26, 27, 28, 29, 30, 31, 32, 33, 34, 35, 36, 37, 38, 39, 40, 41, 42, 43], [0, 1, 2, 3, 4, 5, 6, 7, 8, 9, 10, 11, 12, 13, 14, 15, 16, 17, 18, 19, 20, 21, 22, 23, 24, 25, 26, 27, 28, 29, 30, 31, 32, 33, 34, 35, 36, 37, 38, 39, 40, 41, 42, 43], [0, 1, 2, 3, 4, 5, 6, 7, 8, 9, 10, 11, 12, 13, 14, 15, 16, 17, 18, 19, 20, 21, 22, 23, 24, 25, 26, 27, 28, 29, 30, 31, 32, 33, 34, 35, 36, 37, 38, 39, 40, 41, 42, 43, 44, 45], [0, 1, 2, 3, 4, 5, 6, 7, 8, 9, 10, 11, 12, 13, 14, 15, 16, 17, 18, 19, 20, 21, 22, 23, 24, 25, 26, 27, 28, 29, 30, 31, 32, 33, 34, 35, 36, 37, 38, 39, 40, 41, 42, 43, 44, 45, 46], [0, 1, 2, 3, 4, 5, 6, 7, 8, 9, 10, 11, 12, 13, 14, 15, 16, 17, 18, 19, 20, 21, 22, 23, 24, 25, 26, 27, 28, 29, 30, 31, 32, 33, 34, 35, 36, 37, 38, 39, 40, 41, 42, 43, 44, 45, 46, 47], [0, 1, 2, 3, 4, 5, 6, 7, 8, 9, 10, 11, 12, 13, 14, 15, 16, 17, 18, 19, 20, 21, 22, 23, 24, 25, 26, 27, 28, 29, 30, 31, 32, 33, 34, 35, 36, 37, 38, 39, 40, 41, 42, 43, 44, 45, 46, 47, 48], [0, 1, 2, 3, 4, 5, 6, 7, 8, 9, 10, 11, 12, 13, 14, 15, 16, 17, 18, 19, 20, 21, 22, 23, 24, 25, 26, 27, 28, 29, 30, 31, 32, 33, 34, 35, 36, 37, 38, 39, 40, 41, 42, 43, 44, 45, 46, 47, 48, 49], [0, 1, 2, 3, 4, 5, 6, 7, 8, 9, 10, 11, 12, 13, 14, 15, 16, 17, 18, 19, 20, 21, 22, 23, 24, 25, 26, 27, 28, 29, 30, 31, 32, 33, 34, 35, 36, 37, 38, 39, 40, 41, 42, 43, 44, 45, 46, 47, 48, 49, 50], [0, 1, 2, 3, 4, 5, 6, 7, 8, 9, 10, 11, 12, 13, 14, 15, 16, 17, 18, 19, 20, 21, 22, 23, 24, 25, 26, 27, 28, 29, 30, 31, 32, 33, 34, 35, 36, 37, 38, 39, 40, 41, 42, 43, 44, 45, 46, 47, 48, 49, 50, 51]] (by kernel_rfl) (by kernel_rfl) (by kernel_rfl) (by kernel_rfl) [3, 6, 7, 9, 10, 11, 82, 83, 84, 170] [2, 3] (by kernel_rfl)
                                              ⟨⟨⟨⟨⟨⟨⟨⟨⟨⟨⟨⟨⟨⟨⟨⟨⟨⟨⟨⟨⟨⟨⟨⟨⟨⟨⟨⟨⟨⟨⟨⟨⟨⟨⟨⟨⟨⟨⟨⟨⟨⟨⟨⟨⟨⟨⟨⟨⟨⟨⟨⟨⟨trivial,
                                              tri_quietW (fun β => []) [] [] (fun β => []) (by kernel_rfl) (fun β extra => by kernel_rfl) (by kernel_rfl) (fun β => trivial)⟩,
                                              tri_quietW (fun β => [(119, .bool false)]) [] [] (fun β => [(.bool false, .bool false)]) (by kernel_rfl) (fun β extra => by kernel_rfl) (by kernel_rfl) (fun β => ⟨rfl, trivial⟩)⟩,
                                              tri_quietW (fun β => []) [] [] (fun β => []) (by kernel_rfl) (fun β extra => by kernel_rfl) (by kernel_rfl) (fun β => trivial)⟩,
                                              tri_quietW (fun β => []) [] [] (fun β => []) (by kernel_rfl) (fun β extra => by kernel_rfl) (by kernel_rfl) (fun β => trivial)⟩,
                                              tri_quietW (fun β => [(122, .bool false)]) [] [] (fun β => [(.bool false, .bool false)]) (by kernel_rfl) (fun β extra => by kernel_rfl) (by kernel_rfl) (fun β => ⟨rfl, trivial⟩)⟩,
                                              tri_quietW (fun β => []) [] [] (fun β => []) (by kernel_rfl) (fun β extra => by kernel_rfl) (by kernel_rfl) (fun β => trivial)⟩,
                                              tri_quietW (fun β => []) [] [] (fun β => []) (by kernel_rfl) (fun β extra => by kernel_rfl) (by kernel_rfl) (fun β => trivial)⟩,
                                              tri_quietW (fun β => []) [] [] (fun β => []) (by kernel_rfl) (fun β extra => by kernel_rfl) (by kernel_rfl) (fun β => trivial)⟩,
                                              tri_quietW (fun β => [(126, .bool false)]) [] [] (fun β => [(.bool false, .bool false)]) (by kernel_rfl) (fun β extra => by kernel_rfl) (by kernel_rfl) (fun β => ⟨rfl, trivial⟩)⟩,
                                              tri_quietW (fun β => []) [] [] (fun β => []) (by kernel_rfl) (fun β extra => by kernel_rfl) (by kernel_rfl) (fun β => trivial)⟩,
                                              tri_quietW (fun β => []) [] [] (fun β => []) (by kernel_rfl) (fun β extra => by kernel_rfl) (by kernel_rfl) (fun β => trivial)⟩,
                                              tri_quietW (fun β => []) [] [] (fun β => []) (by kernel_rfl) (fun β extra => by kernel_rfl) (by kernel_rfl) (fun β => trivial)⟩,
                                              tri_quietW (fun β => []) [0] [0] (fun β => [(pA b3, pA b3)]) (by kernel_rfl) (fun β extra => by kernel_rfl) (by kernel_rfl) (fun β => ⟨rfl, trivial⟩)⟩,
                                              tri_callVW (fun β => .bool true) (fun β => by kernel_rfl) 25 (fun β => #[iV (elI (lnT T (p.n.N + 1)) j), .agg #[iV (p.n.out b j).1, iV (p.n.out b j).2]]) (by kernel_rfl) (fun β extra => by kernel_rfl) (fun β => by kernel_rfl) (fun β w1 k1 h1 => (by have h := inside_any (elI (lnT T (p.n.N + 1)) j) (p.n.out b j) w1; rw [hd5] at h; exact h))⟩,
                                              tri_quietW (fun β => [(132, .bool false)]) [] [] (fun β => [(.bool false, .bool false)]) (by kernel_rfl) (fun β extra => by kernel_rfl) (by kernel_rfl) (fun β => ⟨rfl, trivial⟩)⟩,
                                              tri_quietW (fun β => []) [] [] (fun β => []) (by kernel_rfl) (fun β extra => by kernel_rfl) (by kernel_rfl) (fun β => trivial)⟩,
                                              tri_quietW (fun β => []) [] [] (fun β => []) (by kernel_rfl) (fun β extra => by kernel_rfl) (by kernel_rfl) (fun β => trivial)⟩,
                                              tri_quietW (fun β => []) [] [] (fun β => []) (by kernel_rfl) (fun β extra => by kernel_rfl) (by kernel_rfl) (fun β => trivial)⟩,
                                              tri_quietW (fun β => []) [] [] (fun β => []) (by kernel_rfl) (fun β extra => by kernel_rfl) (by kernel_rfl) (fun β => trivial)⟩,
                                              tri_quietW (fun β => [(137, iV qn)]) [] [] (fun β => [(iV (IntKind.i64.wrap (elI (lnT T (p.n.N + 1)) j * gv)), iV qn)]) (by kernel_rfl) (fun β extra => by kernel_rfl) (by kernel_rfl) (fun β => ⟨((wr (by omega) (by omega)).trans (io hqn)), trivial⟩)⟩,
                                              tri_callVW (fun β => iV (dwn qn)) (fun β => by kernel_rfl) 26 (fun β => #[iV qn]) (by kernel_rfl) (fun β extra => by kernel_rfl) (fun β => by kernel_rfl) (fun β w1 k1 h1 => ldown_any qn (by omega) (by omega) w1)⟩,
                                              tri_quietW (fun β => []) [0] [0] (fun β => [(pA b4, pA b4)]) (by kernel_rfl) (fun β extra => by kernel_rfl) (by kernel_rfl) (fun β => ⟨rfl, trivial⟩)⟩,
                                              tri_callVW (fun β => .bool true) (fun β => by kernel_rfl) 25 (fun β => #[iV (dwn qn), .agg #[iV ((lonS (p.n.out b j) (elB p.bs b).2.2.2.2).1), iV ((lonS (p.n.out b j) (elB p.bs b).2.2.2.2).2)]]) (by kernel_rfl) (fun β extra => by kernel_rfl) (fun β => by kernel_rfl) (fun β w1 k1 h1 => (by have h := inside_any (dwn qn) (lonS (p.n.out b j) (elB p.bs b).2.2.2.2) w1; rw [hd6] at h; exact h))⟩,
                                              tri_quietW (fun β => [(141, .bool false)]) [] [] (fun β => [(.bool false, .bool false)]) (by kernel_rfl) (fun β extra => by kernel_rfl) (by kernel_rfl) (fun β => ⟨rfl, trivial⟩)⟩,
                                              tri_quietW (fun β => []) [] [] (fun β => []) (by kernel_rfl) (fun β extra => by kernel_rfl) (by kernel_rfl) (fun β => trivial)⟩,
                                              tri_quietW (fun β => []) [] [] (fun β => []) (by kernel_rfl) (fun β extra => by kernel_rfl) (by kernel_rfl) (fun β => trivial)⟩,
                                              tri_quietW (fun β => []) [] [] (fun β => []) (by kernel_rfl) (fun β extra => by kernel_rfl) (by kernel_rfl) (fun β => trivial)⟩,
                                              tri_quietW (fun β => [(145, .bool false)]) [] [] (fun β => [(.bool (jv == 2), .bool false)]) (by kernel_rfl) (fun β extra => by kernel_rfl) (by kernel_rfl) (fun β => ⟨(bo hd7), trivial⟩)⟩,
                                              tri_quietW (fun β => []) [] [] (fun β => []) (by kernel_rfl) (fun β extra => by kernel_rfl) (by kernel_rfl) (fun β => trivial)⟩,
                                              tri_quietW (fun β => []) [] [] (fun β => []) (by kernel_rfl) (fun β extra => by kernel_rfl) (by kernel_rfl) (fun β => trivial)⟩,
                                              tri_quietW (fun β => []) [] [] (fun β => []) (by kernel_rfl) (fun β extra => by kernel_rfl) (by kernel_rfl) (fun β => trivial)⟩,
                                              tri_quietW (fun β => []) [] [] (fun β => []) (by kernel_rfl) (fun β extra => by kernel_rfl) (by kernel_rfl) (fun β => trivial)⟩,
                                              tri_quietW (fun β => []) [] [] (fun β => []) (by kernel_rfl) (fun β extra => by kernel_rfl) (by kernel_rfl) (fun β => trivial)⟩,
                                              tri_quietW (fun β => []) [] [] (fun β => []) (by kernel_rfl) (fun β extra => by kernel_rfl) (by kernel_rfl) (fun β => trivial)⟩,
                                              tri_quietW (fun β => []) [] [] (fun β => []) (by kernel_rfl) (fun β extra => by kernel_rfl) (by kernel_rfl) (fun β => trivial)⟩,
                                              tri_quietW (fun β => [(153, .bool true)]) [] [] (fun β => [(.bool (jv == 0), .bool true)]) (by kernel_rfl) (fun β extra => by kernel_rfl) (by kernel_rfl) (fun β => ⟨(bo hd8), trivial⟩)⟩,
                                              tri_quietW (fun β => []) [] [] (fun β => []) (by kernel_rfl) (fun β extra => by kernel_rfl) (by kernel_rfl) (fun β => trivial)⟩,
                                              tri_quietW (fun β => []) [] [] (fun β => []) (by kernel_rfl) (fun β extra => by kernel_rfl) (by kernel_rfl) (fun β => trivial)⟩,
                                              tri_quietW (fun β => []) [] [] (fun β => []) (by kernel_rfl) (fun β extra => by kernel_rfl) (by kernel_rfl) (fun β => trivial)⟩,
                                              tri_quietW (fun β => []) [] [] (fun β => []) (by kernel_rfl) (fun β extra => by kernel_rfl) (by kernel_rfl) (fun β => trivial)⟩,
                                              tri_quietW (fun β => []) [] [] (fun β => []) (by kernel_rfl) (fun β extra => by kernel_rfl) (by kernel_rfl) (fun β => trivial)⟩,
                                              tri_quietW (fun β => []) [] [] (fun β => []) (by kernel_rfl) (fun β extra => by kernel_rfl) (by kernel_rfl) (fun β => trivial)⟩,
                                              tri_quietW (fun β => [(160, .bool false)]) [] [] (fun β => [(.bool (fe == 0), .bool false)]) (by kernel_rfl) (fun β extra => by kernel_rfl) (by kernel_rfl) (fun β => ⟨(bo hd9), trivial⟩)⟩,
                                              tri_quietW (fun β => []) [] [] (fun β => []) (by kernel_rfl) (fun β extra => by kernel_rfl) (by kernel_rfl) (fun β => trivial)⟩,
                                              tri_quietW (fun β => []) [] [] (fun β => []) (by kernel_rfl) (fun β extra => by kernel_rfl) (by kernel_rfl) (fun β => trivial)⟩,
                                              tri_quietW (fun β => []) [] [] (fun β => []) (by kernel_rfl) (fun β extra => by kernel_rfl) (by kernel_rfl) (fun β => trivial)⟩,
                                              tri_quietW (fun β => []) [] [] (fun β => []) (by kernel_rfl) (fun β extra => by kernel_rfl) (by kernel_rfl) (fun β => trivial)⟩,
                                              tri_quietW (fun β => []) [] [] (fun β => []) (by kernel_rfl) (fun β extra => by kernel_rfl) (by kernel_rfl) (fun β => trivial)⟩,
                                              tri_quietW (fun β => []) [] [] (fun β => []) (by kernel_rfl) (fun β extra => by kernel_rfl) (by kernel_rfl) (fun β => trivial)⟩,
                                              tri_quietW (fun β => []) [] [] (fun β => []) (by kernel_rfl) (fun β extra => by kernel_rfl) (by kernel_rfl) (fun β => trivial)⟩,
                                              tri_quietW (fun β => []) [] [] (fun β => []) (by kernel_rfl) (fun β extra => by kernel_rfl) (by kernel_rfl) (fun β => trivial)⟩,
                                              tri_quietW (fun β => []) [] [] (fun β => []) (by kernel_rfl) (fun β extra => by kernel_rfl) (by kernel_rfl) (fun β => trivial)⟩,
                                              tri_quietW (fun β => []) [] [] (fun β => []) (by kernel_rfl) (fun β extra => by kernel_rfl) (by kernel_rfl) (fun β => trivial)⟩
                                              (fun β => ⟨[(3, pA b1), (6, .bool false), (7, iV (b : Int)), (9, iV gv), (10, iV fv), (11, iV fe), (82, sV g2 (p.n.N + 1) cap2), (83, iV ((p.n.N + 1) : Int)), (84, iV (j : Int)), (170, .bool false)], [(g2, cO ((lnT T (p.n.N + 1)).flatMap inR ++ sp2) 3), (b1, aO #[.slice p.ba p.bs.length p.bc, iV p.near, iV p.last, .slice p.ta p.ts.length p.tc] 33)]⟩) (fun β => by kernel_rfl) (fun β5 => ?_)
                      refine run_auto [(171, iV ((j + 1 : Nat) : Int))] 7 [false] [] [3, 6, 7, 9, 10, 11, 82, 83, 84] [0, 1] (st' := ⟨[(3, pA b1), (6, .bool false), (7, iV (b : Int)), (9, iV gv), (10, iV fv), (11, iV fe), (82, sV g2 (p.n.N + 1) cap2), (83, iV ((p.n.N + 1) : Int)), (84, iV ((j + 1 : Nat) : Int))], [(g2, cO ((lnT T (p.n.N + 1)).flatMap inR ++ sp2) 3), (b1, aO #[.slice p.ba p.bs.length p.bc, iV p.near, iV p.last, .slice p.ta p.ts.length p.tc] 33)]⟩) (acc := [(iV (IntKind.i64.wrap ((j : Int) + 1)), iV ((j + 1 : Nat) : Int)), (.bool false, .bool false)]) (by kernel_rfl) (by kernel_rfl) ⟨(wr (by omega) (by omega)), rfl, trivial⟩ ?_
                      exact run_round (by kernel_rfl) (hJ0 (j + 1) (by omega) (by omega))
                    | true =>
                      have hp9 : fe = 0 := by simpa using hd9
                      cases hd10 : (decide (fv ≤ (j : Int))) with
                      | false =>
                        have hp10 := of_decide_eq_false hd10
                        refine drawW 53 [{ val := fun _ => iV 0, slots := [17] },
                                                  { val := fun _ => .bool false, slots := [118] },
                                                  { val := fun _ => .bool false, slots := [119] },
                                                  { val := fun _ => iV 0, slots := [19, 120] },
                                                  { val := fun _ => .bool false, slots := [120, 121] },
                                                  { val := fun _ => .bool false, slots := [120, 122] },
                                                  { val := fun _ => .bool false, slots := [123] },
                                                  { val := fun _ => iV 0, slots := [21, 124] },
                                                  { val := fun _ => .bool false, slots := [124, 125] },
                                                  { val := fun _ => .bool false, slots := [124, 126] },
                                                  { val := fun _ => .bool false, slots := [127] },
                                                  { val := fun _ => iV (elI (lnT T (p.n.N + 1)) j), slots := [15, 128] },
                                                  { val := fun _ => .agg #[iV (p.n.out b j).1, iV (p.n.out b j).2], slots := [16, 128], reads := [1] },
                                                  { val := fun _ => .bool true, slots := [128, 129, 130] },
                                                  { val := fun _ => .bool false, slots := [128, 131] },
                                                  { val := fun _ => .bool false, slots := [128, 132] },
                                                  { val := fun _ => .bool false, slots := [133] },
                                                  { val := fun _ => iV (elI (lnT T (p.n.N + 1)) j), slots := [15, 134] },
                                                  { val := fun _ => iV gv, slots := [9, 134] },
                                                  { val := fun _ => iV qn, slots := [134, 135, 136] },
                                                  { val := fun _ => iV (dwn qn), slots := [134, 137] },
                                                  { val := fun _ => .agg #[iV ((lonS (p.n.out b j) (elB p.bs b).2.2.2.2).1), iV ((lonS (p.n.out b j) (elB p.bs b).2.2.2.2).2)], slots := [18, 134], reads := [0] },
                                                  { val := fun _ => .bool true, slots := [134, 138, 139] },
                                                  { val := fun _ => .bool false, slots := [134, 140] },
                                                  { val := fun _ => .bool false, slots := [134, 141] },
                                                  { val := fun _ => .bool false, slots := [142] },
                                                  { val := fun _ => iV jv, slots := [20, 143] },
                                                  { val := fun _ => .bool false, slots := [143, 144] },
                                                  { val := fun _ => .bool false, slots := [143, 145] },
                                                  { slots := [146] },
                                                  { slots := [146] },
                                                  { val := fun _ => .bool false, slots := [143, 146, 148] },
                                                  { val := fun _ => .bool false, slots := [143, 149] },
                                                  { val := fun _ => .bool false, slots := [150] },
                                                  { val := fun _ => iV jv, slots := [20, 151] },
                                                  { val := fun _ => .bool true, slots := [151, 152] },
                                                  { val := fun _ => .bool true, slots := [151, 153] },
                                                  { val := fun _ => .bool false, slots := [22, 154] },
                                                  { val := fun _ => .bool false, slots := [151, 154, 155] },
                                                  { val := fun _ => .bool false, slots := [151, 156] },
                                                  { val := fun _ => .bool false, slots := [157] },
                                                  { val := fun _ => iV fe, slots := [11, 158] },
                                                  { val := fun _ => .bool true, slots := [158, 159] },
                                                  { val := fun _ => .bool true, slots := [158, 160] },
                                                  { val := fun _ => iV (j : Int), slots := [14, 161] },
                                                  { val := fun _ => iV fv, slots := [10, 161] },
                                                  { val := fun _ => .bool false, slots := [161, 162, 163] },
                                                  { val := fun _ => .bool false, slots := [158, 161, 164] },
                                                  { val := fun _ => .bool false, slots := [158, 165] },
                                                  { slots := [166] },
                                                  { slots := [166] },
                                                  { val := fun _ => .bool false, slots := [158, 166, 168] },
                                                  { val := fun _ => .bool false, slots := [158, 169] }] [[], [0], [0, 1], [0, 1, 2], [0, 1, 2, 3], [0, 1, 2, 3, 4], [0, 1, 2, 3, 4, 5], [0, 1, 2, 3, 4, 5, 6], [0, 1, 2, 3, 4, 5, 6, 7], [0, 1, 2, 3, 4, 5, 6, 7, 8], [0, 1, 2, 3, 4, 5, 6, 7, 8, 9], [0, 1, 2, 3, 4, 5, 6, 7, 8, 9, 10], [0, 1, 2, 3, 4, 5, 6, 7, 8, 9, 10], [0, 1, 2, 3, 4, 5, 6, 7, 8, 9, 10, 11, 12], [0, 1, 2, 3, 4, 5, 6, 7, 8, 9, 10, 11, 12, 13], [0, 1, 2, 3, 4, 5, 6, 7, 8, 9, 10, 11, 12, 13, 14], [0, 1, 2, 3, 4, 5, 6, 7, 8, 9, 10, 11, 12, 13, 14, 15], [0, 1, 2, 3, 4, 5, 6, 7, 8, 9, 10, 11, 12, 13, 14, 15, 16], [0, 1, 2, 3, 4, 5, 6, 7, 8, 9, 10, 11, 12, 13, 14, 15, 16], [0, 1, 2, 3, 4, 5, 6, 7, 8, 9, 10, 11, 12, 13, 14, 15, 16, 17, 18], [0, 1, 2, 3, 4, 5, 6, 7, 8, 9, 10, 11, 12, 13, 14, 15, 16, 17, 18, 19], [0, 1, 2, 3, 4, 5, 6, 7, 8, 9, 10, 11, 12, 13, 14, 15, 16], [0, 1, 2, 3, 4, 5, 6, 7, 8, 9, 10, 11, 12, 13, 14, 15, 16, 17, 18, 19, 20, 21], [0, 1, 2, 3, 4, 5, 6, 7, 8, 9, 10, 11, 12, 13, 14, 15, 16, 17, 18, 19, 20, 21, 22], [0, 1, 2, 3, 4, 5, 6, 7, 8, 9, 10, 11, 12, 13, 14, 15, 16, 17, 18, 19, 20, 21, 22, 23], [0, 1, 2, 3, 4, 5, 6, 7, 8, 9, 10, 11, 12, 13, 14, 15, 16, 17, 18, 19, 20, 21, 22, 23, 24], [0, 1, 2, 3, 4, 5, 6, 7, 8, 9, 10, 11, 12, 13, 14, 15, 16, 17, 18, 19, 20, 21, 22, 23, 24, 25], [0, 1, 2, 3, 4, 5, 6, 7, 8, 9, 10, 11, 12, 13, 14, 15, 16, 17, 18, 19, 20, 21, 22, 23, 24, 25, 26], [0, 1, 2, 3, 4, 5, 6, 7, 8, 9, 10, 11, 12, 13, 14, 15, 16, 17, 18, 19, 20, 21, 22, 23, 24, 25, 26, 27], [0, 1, 2, 3, 4, 5, 6, 7, 8, 9, 10, 11, 12, 13, 14, 15, 16, 17, 18, 19, 20, 21, 22, 23, 24, 25, 26, 27, 28], [0, 1, 2, 3, 4, 5, 6, 7, 8, 9, 10, 11, 12, 13, 14, 15, 16, 17, 18, 19, 20, 21, 22, 23, 24, 25, 26, 27, 28, 29], [0, 1, 2, 3, 4, 5, 6, 7, 8, 9, 10, 11, 12, 13, 14, 15, 16, 17, 18, 19, 20, 21, 22, 23, 24, 25, 26, 27, 28, 29, 30], [0, 1, 2, 3, 4, 5, 6, 7, 8, 9, 10, 11, 12, 13, 14, 15, 16, 17, 18, 19, 20, 21, 22, 23, 24, 25, 26, 27, 28, 29, 30, 31], [0, 1, 2, 3, 4, 5, 6, 7, 8, 9, 10, 11, 12, 13, 14, 15, 16, 17, 18, 19, 20, 21, 22, 23, 24, 25, 26, 27, 28, 29, 30, 31, 32], [0, 1, 2, 3, 4, 5, 6, 7, 8, 9, 10, 11, 12, 13, 14, 15, 16, 17, 18, 19, 20, 21, 22, 23, 24, 25, 26, 27, 28, 29, 30, 31, 32, 33], [0, 1, 2, 3, 4, 5, 6, 7, 8, 9, 10, 11, 12, 13, 14, 15, 16, 17, 18, 19, 20, 21, 22, 23, 24, 25, 26, 27, 28, 29, 30, 31, 32, 33, 34], [0, 1, 2, 3, 4, 5, 6, 7, 8, 9, 10, 11, 12, 13, 14, 15, 16, 17, 18, 19, 20, 21, 22, 23, 24, 25, 26, 27, 28, 29, 30, 31, 32, 33, 34, 35], [0, 1, 2, 3, 4, 5, 6, 7, 8, 9, 10, 11, 12, 13, 14, 15, 16, 17, 18, 19, 20, 21, 22, 23, 24, 25, 26, 27, 28, 29, 30, 31, 32, 33, 34, 35, 36], [0, 1, 2, 3, 4, 5, 6, 7, 8, 9, 10, 11, 12, 13, 14, 15, 16, 17, 18, 19, 20, 21, 22, 23, 24, 25, 26, 27, 28, 29, 30, 31, 32, 33, 34, 35, 36, 37], [0, 1, 2, 3, 4, 5, 6, 7, 8, 9, 10, 11, 12, 13, 14, 15, 16, 17, 18, 19, 20, 21, 22, 23, 24, 25, 26, 27, 28, 29, 30, 31, 32, 33, 34, 35, 36, 37, 38], [0, 1, 2, 3, 4, 5, 6, 7, 8, 9, 10, 11, 12, 13, 14, 15, 16, 17, 18, 19, 20, 21, 22, 23, 24, 25, 26, 27, 28, 29, 30, 31, 32, 33, 34, 35, 36, 37, 38, 39], [0, 1, 2, 3, 4, 5, 6, 7, 8, 9, 10, 11, 12, 13, 14, 15, 16, 17, 18, 19, 20, 21, 22, 23, 24, 25, 26, 27, 28, 29, 30, 31, 32, 33, 34, 35, 36, 37, 38, 39, 40], [0, 1, 2, 3, 4, 5, 6, 7, 8, 9, 10, 11, 12, 13, 14, 15, 16, 17, 18, 19, 20, 21, 22, 23, 24, 25, 26, 27, 28, 29, 30, 31, 32, 33, 34, 35, 36, 37, 38, 39, 40, 41], [0, 1, 2, 3, 4, 5, 6, 7, 8, 9, 10, 11, 12, 13, 14, 15, 16, 17, 18, 19, 20, 21, 22, 23, 24, 25, 26, 27, 28, 29, 30, 31, 32, 33, 34, 35, 36, 37, 38, 39, 40, 41, 42], [0, 1, 2, 3, 4, 5, 6, 7, 8, 9, 10, 11, 12, 13, 14, 15, 16, 17, 18, 19, 20, 21, 22, 23, 24, 25, 26, 27, 28, 29, 30, 31, 32, 33, 34, 35, 36, 37, 38, 39, 40, 41, 42, 43], [0, 1, 2, 3, 4, 5, 6, 7, 8, 9, 10, 11, 12, 13, 14, 15, 16, 17, 18, 19, 20, 21, 22, 23, 24, 25, 26, 27, 28, 29, 30, 31, 32, 33, 34, 35, 36, 37, 38, 39, 40, 41, 42, 43], [0, 1, 2, 3, 4, 5, 6, 7, 8, 9, 10, 11, 12, 13, 14, 15, 16, 17, 18, 19, 20, 21, 22, 23, 24, 25, 26, 27, 28, 29, 30, 31, 32, 33, 34, 35, 36, 37, 38, 39, 40, 41, 42, 43, 44, 45], [0, 1, 2, 3, 4, 5, 6, 7, 8, 9, 10, 11, 12, 13, 14, 15, 16, 17, 18, 19, 20, 21, 22, 23, 24, 25, 26, 27, 28, 29, 30, 31, 32, 33, 34, 35, 36, 37, 38, 39, 40, 41, 42, 43, 44, 45, 46], [0, 1, 2, 3, 4, 5, 6, 7, 8, 9, 10, 11, 12, 13, 14, 15, 16, 17, 18, 19, 20, 21, 22, 23, 24, 25, 26, 27, 28, 29, 30, 31, 32, 33, 34, 35, 36, 37, 38, 39, 40, 41, 42, 43, 44, 45, 46, 47], [0, 1, 2, 3, 4, 5, 6, 7, 8, 9, 10, 11, 12, 13, 14, 15, 16, 17, 18, 19, 20, 21, 22, 23, 24, 25, 26, 27, 28, 29, 30, 31, 32, 33, 34, 35, 36, 37, 38, 39, 40, 41, 42, 43, 44, 45, 46, 47, 48], [0, 1, 2, 3, 4, 5, 6, 7, 8, 9, 10, 11, 12, 13, 14, 15, 16, 17, 18, 19, 20, 21, 22, 23, 24, 25, 26, 27, 28, 29, 30, 31, 32, 33, 34, 35, 36, 37, 38, 39, 40, 41, 42, 43, 44, 45, 46, 47, 48, 49], [0, 1, 2, 3, 4, 5, 6, 7, 8, 9, 10, 11, 12, 13, 14, 15, 16, 17, 18, 19, 20, 21, 22, 23, 24, 25, 26, 27, 28, 29, 30, 31, 32, 33, 34, 35, 36, 37, 38, 39, 40, 41, 42, 43, 44, 45, 46, 47, 48, 49, 50], [0, 1, 2, 3, 4, 5, 6, 7, 8, 9, 10, 11, 12, 13, 14, 15, 16, 17, 18, 19, 20, 21, 22, 23, 24, 25, 26, 27, 28, 29, 30, 31, 32, 33, 34, 35, 36, 37, 38, 39, 40, 41, 42, 43, 44, 45, 46, 47, 48, 49, 50, 51]] (by kernel_rfl) (by kernel_rfl) (by kernel_rfl) (by kernel_rfl) [3, 6, 7, 9, 10, 11, 82, 83, 84, 170] [2, 3] (by kernel_rfl)
                                                  ⟨⟨⟨⟨⟨⟨⟨⟨⟨⟨⟨⟨⟨⟨⟨⟨⟨⟨⟨⟨⟨⟨⟨⟨⟨⟨⟨⟨⟨⟨⟨⟨⟨⟨⟨⟨⟨⟨⟨⟨⟨⟨⟨⟨⟨⟨⟨⟨⟨⟨⟨⟨⟨trivial,
                                                  tri_quietW (fun β => []) [] [] (fun β => []) (by kernel_rfl) (fun β extra => by kernel_rfl) (by kernel_rfl) (fun β => trivial)⟩,
                                                  tri_quietW (fun β => [(119, .bool false)]) [] [] (fun β => [(.bool false, .bool false)]) (by kernel_rfl) (fun β extra => by kernel_rfl) (by kernel_rfl) (fun β => ⟨rfl, trivial⟩)⟩,
                                                  tri_quietW (fun β => []) [] [] (fun β => []) (by kernel_rfl) (fun β extra => by kernel_rfl) (by kernel_rfl) (fun β => trivial)⟩,
                                                  tri_quietW (fun β => []) [] [] (fun β => []) (by kernel_rfl) (fun β extra => by kernel_rfl) (by kernel_rfl) (fun β => trivial)⟩,
                                                  tri_quietW (fun β => [(122, .bool false)]) [] [] (fun β => [(.bool false, .bool false)]) (by kernel_rfl) (fun β extra => by kernel_rfl) (by kernel_rfl) (fun β => ⟨rfl, trivial⟩)⟩,
                                                  tri_quietW (fun β => []) [] [] (fun β => []) (by kernel_rfl) (fun β extra => by kernel_rfl) (by kernel_rfl) (fun β => trivial)⟩,
                                                  tri_quietW (fun β => []) [] [] (fun β => []) (by kernel_rfl) (fun β extra => by kernel_rfl) (by kernel_rfl) (fun β => trivial)⟩,
                                                  tri_quietW (fun β => []) [] [] (fun β => []) (by kernel_rfl) (fun β extra => by kernel_rfl) (by kernel_rfl) (fun β => trivial)⟩,
                                                  tri_quietW (fun β => [(126, .bool false)]) [] [] (fun β => [(.bool false, .bool false)]) (by kernel_rfl) (fun β extra => by kernel_rfl) (by kernel_rfl) (fun β => ⟨rfl, trivial⟩)⟩,
                                                  tri_quietW (fun β => []) [] [] (fun β => []) (by kernel_rfl) (fun β extra => by kernel_rfl) (by kernel_rfl) (fun β => trivial)⟩,
                                                  tri_quietW (fun β => []) [] [] (fun β => []) (by kernel_rfl) (fun β extra => by kernel_rfl) (by kernel_rfl) (fun β => trivial)⟩,
                                                  tri_quietW (fun β => []) [] [] (fun β => []) (by kernel_rfl) (fun β extra => by kernel_rfl) (by kernel_rfl) (fun β => trivial)⟩,
                                                  tri_quietW (fun β => []) [0] [0] (fun β => [(pA b3, pA b3)]) (by kernel_rfl) (fun β extra => by kernel_rfl) (by kernel_rfl) (fun β => ⟨rfl, trivial⟩)⟩,
                                                  tri_callVW (fun β => .bool true) (fun β => by kernel_rfl) 25 (fun β => #[iV (elI (lnT T (p.n.N + 1)) j), .agg #[iV (p.n.out b j).1, iV (p.n.out b j).2]]) (by kernel_rfl) (fun β extra => by kernel_rfl) (fun β => by kernel_rfl) (fun β w1 k1 h1 => (by have h := inside_any (elI (lnT T (p.n.N + 1)) j) (p.n.out b j) w1; rw [hd5] at h; exact h))⟩,
                                                  tri_quietW (fun β => [(132, .bool false)]) [] [] (fun β => [(.bool false, .bool false)]) (by kernel_rfl) (fun β extra => by kernel_rfl) (by kernel_rfl) (fun β => ⟨rfl, trivial⟩)⟩,
                                                  tri_quietW (fun β => []) [] [] (fun β => []) (by kernel_rfl) (fun β extra => by kernel_rfl) (by kernel_rfl) (fun β => trivial)⟩,
                                                  tri_quietW (fun β => []) [] [] (fun β => []) (by kernel_rfl) (fun β extra => by kernel_rfl) (by kernel_rfl) (fun β => trivial)⟩,
                                                  tri_quietW (fun β => []) [] [] (fun β => []) (by kernel_rfl) (fun β extra => by kernel_rfl) (by kernel_rfl) (fun β => trivial)⟩,
                                                  tri_quietW (fun β => []) [] [] (fun β => []) (by kernel_rfl) (fun β extra => by kernel_rfl) (by kernel_rfl) (fun β => trivial)⟩,
                                                  tri_quietW (fun β => [(137, iV qn)]) [] [] (fun β => [(iV (IntKind.i64.wrap (elI (lnT T (p.n.N + 1)) j * gv)), iV qn)]) (by kernel_rfl) (fun β extra => by kernel_rfl) (by kernel_rfl) (fun β => ⟨((wr (by omega) (by omega)).trans (io hqn)), trivial⟩)⟩,
                                                  tri_callVW (fun β => iV (dwn qn)) (fun β => by kernel_rfl) 26 (fun β => #[iV qn]) (by kernel_rfl) (fun β extra => by kernel_rfl) (fun β => by kernel_rfl) (fun β w1 k1 h1 => ldown_any qn (by omega) (by omega) w1)⟩,
                                                  tri_quietW (fun β => []) [0] [0] (fun β => [(pA b4, pA b4)]) (by kernel_rfl) (fun β extra => by kernel_rfl) (by kernel_rfl) (fun β => ⟨rfl, trivial⟩)⟩,
                                                  tri_callVW (fun β => .bool true) (fun β => by kernel_rfl) 25 (fun β => #[iV (dwn qn), .agg #[iV ((lonS (p.n.out b j) (elB p.bs b).2.2.2.2).1), iV ((lonS (p.n.out b j) (elB p.bs b).2.2.2.2).2)]]) (by kernel_rfl) (fun β extra => by kernel_rfl) (fun β => by kernel_rfl) (fun β w1 k1 h1 => (by have h := inside_any (dwn qn) (lonS (p.n.out b j) (elB p.bs b).2.2.2.2) w1; rw [hd6] at h; exact h))⟩,
                                                  tri_quietW (fun β => [(141, .bool false)]) [] [] (fun β => [(.bool false, .bool false)]) (by kernel_rfl) (fun β extra => by kernel_rfl) (by kernel_rfl) (fun β => ⟨rfl, trivial⟩)⟩,
                                                  tri_quietW (fun β => []) [] [] (fun β => []) (by kernel_rfl) (fun β extra => by kernel_rfl) (by kernel_rfl) (fun β => trivial)⟩,
                                                  tri_quietW (fun β => []) [] [] (fun β => []) (by kernel_rfl) (fun β extra => by kernel_rfl) (by kernel_rfl) (fun β => trivial)⟩,
                                                  tri_quietW (fun β => []) [] [] (fun β => []) (by kernel_rfl) (fun β extra => by kernel_rfl) (by kernel_rfl) (fun β => trivial)⟩,
                                                  tri_quietW (fun β => [(145, .bool false)]) [] [] (fun β => [(.bool (jv == 2), .bool false)]) (by kernel_rfl) (fun β extra => by kernel_rfl) (by kernel_rfl) (fun β => ⟨(bo hd7), trivial⟩)⟩,
                                                  tri_quietW (fun β => []) [] [] (fun β => []) (by kernel_rfl) (fun β extra => by kernel_rfl) (by kernel_rfl) (fun β => trivial)⟩,
                                                  tri_quietW (fun β => []) [] [] (fun β => []) (by kernel_rfl) (fun β extra => by kernel_rfl) (by kernel_rfl) (fun β => trivial)⟩,
                                                  tri_quietW (fun β => []) [] [] (fun β => []) (by kernel_rfl) (fun β extra => by kernel_rfl) (by kernel_rfl) (fun β => trivial)⟩,
                                                  tri_quietW (fun β => []) [] [] (fun β => []) (by kernel_rfl) (fun β extra => by kernel_rfl) (by kernel_rfl) (fun β => trivial)⟩,
                                                  tri_quietW (fun β => []) [] [] (fun β => []) (by kernel_rfl) (fun β extra => by kernel_rfl) (by kernel_rfl) (fun β => trivial)⟩,
                                                  tri_quietW (fun β => []) [] [] (fun β => []) (by kernel_rfl) (fun β extra => by kernel_rfl) (by kernel_rfl) (fun β => trivial)⟩,
                                                  tri_quietW (fun β => []) [] [] (fun β => []) (by kernel_rfl) (fun β extra => by kernel_rfl) (by kernel_rfl) (fun β => trivial)⟩,
                                                  tri_quietW (fun β => [(153, .bool true)]) [] [] (fun β => [(.bool (jv == 0), .bool true)]) (by kernel_rfl) (fun β extra => by kernel_rfl) (by kernel_rfl) (fun β => ⟨(bo hd8), trivial⟩)⟩,
                                                  tri_quietW (fun β => []) [] [] (fun β => []) (by kernel_rfl) (fun β extra => by kernel_rfl) (by kernel_rfl) (fun β => trivial)⟩,
                                                  tri_quietW (fun β => []) [] [] (fun β => []) (by kernel_rfl) (fun β extra => by kernel_rfl) (by kernel_rfl) (fun β => trivial)⟩,
                                                  tri_quietW (fun β => []) [] [] (fun β => []) (by kernel_rfl) (fun β extra => by kernel_rfl) (by kernel_rfl) (fun β => trivial)⟩,
                                                  tri_quietW (fun β => []) [] [] (fun β => []) (by kernel_rfl) (fun β extra => by kernel_rfl) (by kernel_rfl) (fun β => trivial)⟩,
                                                  tri_quietW (fun β => []) [] [] (fun β => []) (by kernel_rfl) (fun β extra => by kernel_rfl) (by kernel_rfl) (fun β => trivial)⟩,
                                                  tri_quietW (fun β => []) [] [] (fun β => []) (by kernel_rfl) (fun β extra => by kernel_rfl) (by kernel_rfl) (fun β => trivial)⟩,
                                                  tri_quietW (fun β => [(160, .bool true)]) [] [] (fun β => [(.bool (fe == 0), .bool true)]) (by kernel_rfl) (fun β extra => by kernel_rfl) (by kernel_rfl) (fun β => ⟨(bo hd9), trivial⟩)⟩,
                                                  tri_quietW (fun β => []) [] [] (fun β => []) (by kernel_rfl) (fun β extra => by kernel_rfl) (by kernel_rfl) (fun β => trivial)⟩,
                                                  tri_quietW (fun β => []) [] [] (fun β => []) (by kernel_rfl) (fun β extra => by kernel_rfl) (by kernel_rfl) (fun β => trivial)⟩,
                                                  tri_quietW (fun β => []) [] [] (fun β => []) (by kernel_rfl) (fun β extra => by kernel_rfl) (by kernel_rfl) (fun β => trivial)⟩,
                                                  tri_quietW (fun β => [(164, .bool false)]) [] [] (fun β => [(.bool (decide (fv ≤ (j : Int))), .bool false)]) (by kernel_rfl) (fun β extra => by kernel_rfl) (by kernel_rfl) (fun β => ⟨(bo hd10), trivial⟩)⟩,
                                                  tri_quietW (fun β => []) [] [] (fun β => []) (by kernel_rfl) (fun β extra => by kernel_rfl) (by kernel_rfl) (fun β => trivial)⟩,
                                                  tri_quietW (fun β => []) [] [] (fun β => []) (by kernel_rfl) (fun β extra => by kernel_rfl) (by kernel_rfl) (fun β => trivial)⟩,
                                                  tri_quietW (fun β => []) [] [] (fun β => []) (by kernel_rfl) (fun β extra => by kernel_rfl) (by kernel_rfl) (fun β => trivial)⟩,
                                                  tri_quietW (fun β => []) [] [] (fun β => []) (by kernel_rfl) (fun β extra => by kernel_rfl) (by kernel_rfl) (fun β => trivial)⟩,
                                                  tri_quietW (fun β => []) [] [] (fun β => []) (by kernel_rfl) (fun β extra => by kernel_rfl) (by kernel_rfl) (fun β => trivial)⟩,
                                                  tri_quietW (fun β => []) [] [] (fun β => []) (by kernel_rfl) (fun β extra => by kernel_rfl) (by kernel_rfl) (fun β => trivial)⟩
                                                  (fun β => ⟨[(3, pA b1), (6, .bool false), (7, iV (b : Int)), (9, iV gv), (10, iV fv), (11, iV fe), (82, sV g2 (p.n.N + 1) cap2), (83, iV ((p.n.N + 1) : Int)), (84, iV (j : Int)), (170, .bool false)], [(g2, cO ((lnT T (p.n.N + 1)).flatMap inR ++ sp2) 3), (b1, aO #[.slice p.ba p.bs.length p.bc, iV p.near, iV p.last, .slice p.ta p.ts.length p.tc] 33)]⟩) (fun β => by kernel_rfl) (fun β5 => ?_)
                        refine run_auto [(171, iV ((j + 1 : Nat) : Int))] 7 [false] [] [3, 6, 7, 9, 10, 11, 82, 83, 84] [0, 1] (st' := ⟨[(3, pA b1), (6, .bool false), (7, iV (b : Int)), (9, iV gv), (10, iV fv), (11, iV fe), (82, sV g2 (p.n.N + 1) cap2), (83, iV ((p.n.N + 1) : Int)), (84, iV ((j + 1 : Nat) : Int))], [(g2, cO ((lnT T (p.n.N + 1)).flatMap inR ++ sp2) 3), (b1, aO #[.slice p.ba p.bs.length p.bc, iV p.near, iV p.last, .slice p.ta p.ts.length p.tc] 33)]⟩) (acc := [(iV (IntKind.i64.wrap ((j : Int) + 1)), iV ((j + 1 : Nat) : Int)), (.bool false, .bool false)]) (by kernel_rfl) (by kernel_rfl) ⟨(wr (by omega) (by omega)), rfl, trivial⟩ ?_
                        exact run_round (by kernel_rfl) (hJ0 (j + 1) (by omega) (by omega))
                      | true =>
                        have hp10 := of_decide_eq_true hd10
                        exfalso
                        omega
                | true =>
                  have hp7 : jv = 2 := by simpa using hd7
                  exfalso
                  omega
          | true =>
            have hnwhd4 := of_decide_eq_true (show decide _ = true from hd4)
            dsimp only at hnwhd4
            rw [hnv] at hnwhd4
            refine run_ret1 25 #[iV (elI (lnT T (p.n.N + 1)) j), .agg #[iV (-p.near), iV p.near]] (some 117) (.bool true) (by kernel_rfl) (fun w1 k1 h1 => (by have h := inside_any (elI (lnT T (p.n.N + 1)) j) ((-p.near), p.near) w1; rw [hd4] at h; exact h)) ?_
            refine run_auto [] 3 [] [] [3, 6, 7, 9, 10, 11, 82, 83, 84, 14, 15, 16, 17, 18, 19, 20, 21, 22] [0, 1, 2, 3] (st' := ⟨[(3, pA b1), (6, .bool false), (7, iV (b : Int)), (9, iV gv), (10, iV fv), (11, iV fe), (82, sV g2 (p.n.N + 1) cap2), (83, iV ((p.n.N + 1) : Int)), (84, iV (j : Int)), (14, iV (j : Int)), (15, iV (elI (lnT T (p.n.N + 1)) j)), (16, pA b3), (17, iV 0), (18, pA b4), (19, iV 0), (20, iV jv), (21, iV 0), (22, .bool true)], [(b4, aO #[iV ((lonS (p.n.out b j) (elB p.bs b).2.2.2.2).1), iV ((lonS (p.n.out b j) (elB p.bs b).2.2.2.2).2)] 23), (b3, aO #[iV (p.n.out b j).1, iV (p.n.out b j).2] 23), (g2, cO ((lnT T (p.n.N + 1)).flatMap inR ++ sp2) 3), (b1, aO #[.slice p.ba p.bs.length p.bc, iV p.near, iV p.last, .slice p.ta p.ts.length p.tc] 33)]⟩) (acc := []) (by kernel_rfl) (by kernel_rfl) trivial ?_
            cases hd5 : (inB (elI (lnT T (p.n.N + 1)) j) (p.n.out b j)) with
            | false =>
              rw [hi1] at hd5
              cases hd5
            | true =>
              cases hd6 : (inB (dwn qn) (lonS (p.n.out b j) (elB p.bs b).2.2.2.2)) with
              | false =>
                rw [hi2] at hd6
                cases hd6
              | true =>
                cases hd7 : (jv == 2) with
                | false =>
                  have hp7 : ¬ jv = 2 := by simpa using hd7
                  cases hd8 : (jv == 0) with
                  | false =>
                    have hp8 : ¬ jv = 0 := by simpa using hd8
                    cases hd9 : (fe == 0) with
                    | false =>
                      have hp9 : ¬ fe = 0 := by simpa using hd9
                      refine drawW 53 [{ val := fun _ => iV 0, slots := [17] },
                                              { val := fun _ => .bool false, slots := [118] },
                                              { val := fun _ => .bool false, slots := [119] },
                                              { val := fun _ => iV 0, slots := [19, 120] },
                                              { val := fun _ => .bool false, slots := [120, 121] },
                                              { val := fun _ => .bool false, slots := [120, 122] },
                                              { val := fun _ => .bool false, slots := [123] },
                                              { val := fun _ => iV 0, slots := [21, 124] },
                                              { val := fun _ => .bool false, slots := [124, 125] },
                                              { val := fun _ => .bool false, slots := [124, 126] },
                                              { val := fun _ => .bool false, slots := [127] },
                                              { val := fun _ => iV (elI (lnT T (p.n.N + 1)) j), slots := [15, 128] },
                                              { val := fun _ => .agg #[iV (p.n.out b j).1, iV (p.n.out b j).2], slots := [16, 128], reads := [1] },
                                              { val := fun _ => .bool true, slots := [128, 129, 130] },
                                              { val := fun _ => .bool false, slots := [128, 131] },
                                              { val := fun _ => .bool false, slots := [128, 132] },
                                              { val := fun _ => .bool false, slots := [133] },
                                              { val := fun _ => iV (elI (lnT T (p.n.N + 1)) j), slots := [15, 134] },
                                              { val := fun _ => iV gv, slots := [9, 134] },
                                              { val := fun _ => iV qn, slots := [134, 135, 136] },
                                              { val := fun _ => iV (dwn qn), slots := [134, 137] },
                                              { val := fun _ => .agg #[iV ((lonS (p.n.out b j) (elB p.bs b).2.2.2.2).1), iV ((lonS (p.n.out b j) (elB p.bs b).2.2.2.2).2)], slots := [18, 134], reads := [0] },
                                              { val := fun _ => .bool true, slots := [134, 138, 139] },
                                              { val := fun _ => .bool false, slots := [134, 140] },
                                              { val := fun _ => .bool false, slots := [134, 141] },
                                              { val := fun _ => .bool false, slots := [142] },
                                              { val := fun _ => iV jv, slots := [20, 143] },
                                              { val := fun _ => .bool false, slots := [143, 144] },
                                              { val := fun _ => .bool false, slots := [143, 145] },
                                              { slots := [146] },
                                              { slots := [146] },
                                              { val := fun _ => .bool false, slots := [143, 146, 148] },
                                              { val := fun _ => .bool false, slots := [143, 149] },
                                              { val := fun _ => .bool false, slots := [150] },
                                              { val := fun _ => iV jv, slots := [20, 151] },
                                              { val := fun _ => .bool false, slots := [151, 152] },
                                              { val := fun _ => .bool false, slots := [151, 153] },
                                              { slots := [154] },
                                              { val := fun _ => .bool false, slots := [151, 154, 155] },
                                              { val := fun _ => .bool false, slots := [151, 156] },
                                              { val := fun _ => .bool false, slots := [157] },
                                              { val := fun _ => iV fe, slots := [11, 158] },
                                              { val := fun _ => .bool false, slots := [158, 159] },
                                              { val := fun _ => .bool false, slots := [158, 160] },
                                              { slots := [161] },
                                              { slots := [161] },
                                              { slots := [161] },
                                              { val := fun _ => .bool false, slots := [158, 161, 164] },
                                              { val := fun _ => .bool false, slots := [158, 165] },
                                              { slots := [166] },
                                              { slots := [166] },
                                              { val := fun _ => .bool false, slots := [158, 166, 168] },
                                              { val := fun _ => .bool false, slots := [158, 169] }] [[], [0], [0, 1], [0, 1, 2], [0, 1, 2, 3], [0, 1, 2, 3, 4], [0, 1, 2, 3, 4, 5], [0, 1, 2, 3, 4, 5, 6], [0, 1, 2, 3, 4, 5, 6, 7], [0, 1, 2, 3, 4, 5, 6, 7, 8], [0, 1, 2, 3, 4, 5, 6, 7, 8, 9], [0, 1, 2, 3, 4, 5, 6, 7, 8, 9, 10], [0, 1, 2, 3, 4, 5, 6, 7, 8, 9, 10], [0, 1, 2, 3, 4, 5, 6, 7, 8, 9, 10, 11, 12], [0, 1, 2, 3, 4, 5, 6, 7, 8, 9, 10, 11, 12, 13], [0, 1, 2, 3, 4, 5, 6, 7, 8, 9, 10, 11, 12, 13, 14], [0, 1, 2, 3, 4, 5, 6, 7, 8, 9, 10, 11, 12, 13, 14, 15], [0, 1, 2, 3, 4, 5, 6, 7, 8, 9, 10, 11, 12, 13, 14, 15, 16], [0, 1, 2, 3, 4, 5, 6, 7, 8, 9, 10, 11, 12, 13, 14, 15, 16], [0, 1, 2, 3, 4, 5, 6, 7, 8, 9, 10, 11, 12, 13, 14, 15, 16, 17, 18], [0, 1, 2, 3, 4, 5, 6, 7, 8, 9, 10, 11, 12, 13, 14, 15, 16, 17, 18, 19], [0, 1, 2, 3, 4, 5, 6, 7, 8, 9, 10, 11, 12, 13, 14, 15, 16], [0, 1, 2, 3, 4, 5, 6, 7, 8, 9, 10, 11, 12, 13, 14, 15, 16, 17, 18, 19, 20, 21], [0, 1, 2, 3, 4, 5, 6, 7, 8, 9, 10, 11, 12, 13, 14, 15, 16, 17, 18, 19, 20, 21, 22], [0, 1, 2, 3, 4, 5, 6, 7, 8, 9, 10, 11, 12, 13, 14, 15, 16, 17, 18, 19, 20, 21, 22, 23], [0, 1, 2, 3, 4, 5, 6, 7, 8, 9, 10, 11, 12, 13, 14, 15, 16, 17, 18, 19, 20, 21, 22, 23, 24], [0, 1, 2, 3, 4, 5, 6, 7, 8, 9, 10, 11, 12, 13, 14, 15, 16, 17, 18, 19, 20, 21, 22, 23, 24, 25], [0, 1, 2, 3, 4, 5, 6, 7, 8, 9, 10, 11, 12, 13, 14, 15, 16, 17, 18, 19, 20, 21, 22, 23, 24, 25, 26], [0, 1, 2, 3, 4, 5, 6, 7, 8, 9, 10, 11, 12, 13, 14, 15, 16, 17, 18, 19, 20, 21, 22, 23, 24, 25, 26, 27], [0, 1, 2, 3, 4, 5, 6, 7, 8, 9, 10, 11, 12, 13, 14, 15, 16, 17, 18, 19, 20, 21, 22, 23, 24, 25, 26, 27, 28], [0, 1, 2, 3, 4, 5, 6, 7, 8, 9, 10, 11, 12, 13, 14, 15, 16, 17, 18, 19, 20, 21, 22, 23, 24, 25, 26, 27, 28, 29], [0, 1, 2, 3, 4, 5, 6, 7, 8, 9, 10, 11, 12, 13, 14, 15, 16, 17, 18, 19, 20, 21, 22, 23, 24, 25, 26, 27, 28, 29, 30], [0, 1, 2, 3, 4, 5, 6, 7, 8, 9, 10, 11, 12, 13, 14, 15, 16, 17, 18, 19, 20, 21, 22, 23, 24, 25, 26, 27, 28, 29, 30, 31], [0, 1, 2, 3, 4, 5, 6, 7, 8, 9, 10, 11, 12, 13, 14, 15, 16, 17, 18, 19, 20, 21, 22, 23, 24, 25, 26, 27, 28, 29, 30, 31, 32], [0, 1, 2, 3, 4, 5, 6, 7, 8, 9, 10, 11, 12, 13, 14, 15, 16, 17, 18, 19, 20, 21, 22, 23, 24, 25, 26, 27, 28, 29, 30, 31, 32, 33], [0, 1, 2, 3, 4, 5, 6, 7, 8, 9, 10, 11, 12, 13, 14, 15, 16, 17, 18, 19, 20, 21, 22, 23, 24, 25, 26, 27, 28, 29, 30, 31, 32, 33, 34], [0, 1, 2, 3, 4, 5, 6, 7, 8, 9, 10, 11, 12, 13, 14, 15, 16, 17, 18, 19, 20, 21, 22, 23, 24, 25, 26, 27, 28, 29, 30, 31, 32, 33, 34, 35], [0, 1, 2, 3, 4, 5, 6, 7, 8, 9, 10, 11, 12, 13, 14, 15, 16, 17, 18, 19, 20, 21, 22, 23, 24, 25, 26, 27, 28, 29, 30, 31, 32, 33, 34, 35, 36], [0, 1, 2, 3, 4, 5, 6, 7, 8, 9, 10, 11, 12, 13, 14, 15, 16, 17, 18, 19, 20, 21, 22, 23, 24, 25, 26, 27, 28, 29, 30, 31, 32, 33, 34, 35, 36, 37], [0, 1, 2, 3, 4, 5, 6, 7, 8, 9, 10, 11, 12, 13, 14, 15, 16, 17, 18, 19, 20, 21, 22, 23, 24, 25, 26, 27, 28, 29, 30, 31, 32, 33, 34, 35, 36, 37, 38], [0, 1, 2, 3, 4, 5, 6, 7, 8, 9, 10, 11, 12, 13, 14, 15, 16, 17, 18, 19, 20, 21, 22, 23, 24, 25, 26, 27, 28, 29, 30, 31, 32, 33, 34, 35, 36, 37, 38, 39], [0, 1, 2, 3, 4, 5, 6, 7, 8, 9, 10, 11, 12, 13, 14, 15, 16, 17, 18, 19, 20, 21, 22, 23, 24, 25, 26, 27, 28, 29, 30, 31, 32, 33, 34, 35, 36, 37, 38, 39, 40], [0, 1, 2, 3, 4, 5, 6, 7, 8, 9, 10, 11, 12, 13, 14, 15, 16, 17, 18, 19, 20, 21, 22, 23, 24, 25, 26, 27, 28, 29, 30, 31, 32, 33, 34, 35, 36, 37, 38, 39, 40, 41], [0, 1, 2, 3, 4, 5, 6, 7, 8, 9, 10, 11, 12, 13, 14, 15, 16, 17, 18, 19, 20, 21, 22, 23, 24, 25, 26, 27, 28, 29, 30, 31, 32, 33, 34, 35, 36, 37, 38, 39, 40, 41, 42], [0, 1, 2, 3, 4, 5, 6, 7, 8, 9, 10, 11, 12, 13, 14, 15, 16, 17, 18, 19, 20, 21, 22, 23, 24, 25, 26, 27, 28, 29, 30, 31, 32, 33, 34, 35, 36, 37, 38, 39, 40, 41, 42, 43], [0, 1, 2, 3, 4, 5, 6, 7, 8, 9, 10, 11, 12, 13, 14, 15, 16, 17, 18, 19, 20, 21, 22, 23, 24, 25, 26, 27, 28, 29, 30, 31, 32, 33, 34, 35, 36, 37, 38, 39, 40, 41, 42, 43], [0, 1, 2, 3, 4, 5, 6, 7, 8, 9, 10, 11, 12, 13, 14, 15, 16, 17, 18, 19, 20, 21, 22, 23, 24, 25, 26, 27, 28, 29, 30, 31, 32, 33, 34, 35, 36, 37, 38, 39, 40, 41, 42, 43, 44, 45], [0, 1, 2, 3, 4, 5, 6, 7, 8, 9, 10, 11, 12, 13, 14, 15, 16, 17, 18, 19, 20, 21, 22, 23, 24, 25, 26, 27, 28, 29, 30, 31, 32, 33, 34, 35, 36, 37, 38, 39, 40, 41, 42, 43, 44, 45, 46], [0, 1, 2, 3, 4, 5, 6, 7, 8, 9, 10, 11, 12, 13, 14, 15, 16, 17, 18, 19, 20, 21, 22, 23, 24, 25, 26, 27, 28, 29, 30, 31, 32, 33, 34, 35, 36, 37, 38, 39, 40, 41, 42, 43, 44, 45, 46, 47], [0, 1, 2, 3, 4, 5, 6, 7, 8, 9, 10, 11, 12, 13, 14, 15, 16, 17, 18, 19, 20, 21, 22, 23, 24, 25, 26, 27, 28, 29, 30, 31, 32, 33, 34, 35, 36, 37, 38, 39, 40, 41, 42, 43, 44, 45, 46, 47, 48], [0, 1, 2, 3, 4, 5, 6, 7, 8, 9, 10, 11, 12, 13, 14, 15, 16, 17, 18, 19, 20, 21, 22, 23, 24, 25, 26, 27, 28, 29, 30, 31, 32, 33, 34, 35, 36, 37, 38, 39, 40, 41, 42, 43, 44, 45, 46, 47, 48, 49], [0, 1, 2, 3, 4, 5, 6, 7, 8, 9, 10, 11, 12, 13, 14, 15, 16, 17, 18, 19, 20, 21, 22, 23, 24, 25, 26, 27, 28, 29, 30, 31, 32, 33, 34, 35, 36, 37, 38, 39, 40, 41, 42, 43, 44, 45, 46, 47, 48, 49, 50], [0, 1, 2, 3, 4, 5, 6, 7, 8, 9, 10, 11, 12, 13, 14, 15, 16, 17, 18, 19, 20, 21, 22, 23, 24, 25, 26, 27, 28, 29, 30, 31, 32, 33, 34, 35, 36, 37, 38, 39, 40, 41, 42, 43, 44, 45, 46, 47, 48, 49, 50, 51]] (by kernel_rfl) (by kernel_rfl) (by kernel_rfl) (by kernel_rfl) [3, 6, 7, 9, 10, 11, 82, 83, 84, 170] [2, 3] (by kernel_rfl)
                                              ⟨⟨⟨⟨⟨⟨⟨⟨⟨⟨⟨⟨⟨⟨⟨⟨⟨⟨⟨⟨⟨⟨⟨⟨⟨⟨⟨⟨⟨⟨⟨⟨⟨⟨⟨⟨⟨⟨⟨⟨⟨⟨⟨⟨⟨⟨⟨⟨⟨⟨⟨⟨⟨trivial,
                                              tri_quietW (fun β => []) [] [] (fun β => []) (by kernel_rfl) (fun β extra => by kernel_rfl) (by kernel_rfl) (fun β => trivial)⟩,
                                              tri_quietW (fun β => [(119, .bool false)]) [] [] (fun β => [(.bool false, .bool false)]) (by kernel_rfl) (fun β extra => by kernel_rfl) (by kernel_rfl) (fun β => ⟨rfl, trivial⟩)⟩,
                                              tri_quietW (fun β => []) [] [] (fun β => []) (by kernel_rfl) (fun β extra => by kernel_rfl) (by kernel_rfl) (fun β => trivial)⟩,
                                              tri_quietW (fun β => []) [] [] (fun β => []) (by kernel_rfl) (fun β extra => by kernel_rfl) (by kernel_rfl) (fun β => trivial)⟩,
                                              tri_quietW (fun β => [(122, .bool false)]) [] [] (fun β => [(.bool false, .bool false)]) (by kernel_rfl) (fun β extra => by kernel_rfl) (by kernel_rfl) (fun β => ⟨rfl, trivial⟩)⟩,
                                              tri_quietW (fun β => []) [] [] (fun β => []) (by kernel_rfl) (fun β extra => by kernel_rfl) (by kernel_rfl) (fun β => trivial)⟩,
                                              tri_quietW (fun β => []) [] [] (fun β => []) (by kernel_rfl) (fun β extra => by kernel_rfl) (by kernel_rfl) (fun β => trivial)⟩,
                                              tri_quietW (fun β => []) [] [] (fun β => []) (by kernel_rfl) (fun β extra => by kernel_rfl) (by kernel_rfl) (fun β => trivial)⟩,
                                              tri_quietW (fun β => [(126, .bool false)]) [] [] (fun β => [(.bool false, .bool false)]) (by kernel_rfl) (fun β extra => by kernel_rfl) (by kernel_rfl) (fun β => ⟨rfl, trivial⟩)⟩,
                                              tri_quietW (fun β => []) [] [] (fun β => []) (by kernel_rfl) (fun β extra => by kernel_rfl) (by kernel_rfl) (fun β => trivial)⟩,
                                              tri_quietW (fun β => []) [] [] (fun β => []) (by kernel_rfl) (fun β extra => by kernel_rfl) (by kernel_rfl) (fun β => trivial)⟩,
                                              tri_quietW (fun β => []) [] [] (fun β => []) (by kernel_rfl) (fun β extra => by kernel_rfl) (by kernel_rfl) (fun β => trivial)⟩,
                                              tri_quietW (fun β => []) [0] [0] (fun β => [(pA b3, pA b3)]) (by kernel_rfl) (fun β extra => by kernel_rfl) (by kernel_rfl) (fun β => ⟨rfl, trivial⟩)⟩,
                                              tri_callVW (fun β => .bool true) (fun β => by kernel_rfl) 25 (fun β => #[iV (elI (lnT T (p.n.N + 1)) j), .agg #[iV (p.n.out b j).1, iV (p.n.out b j).2]]) (by kernel_rfl) (fun β extra => by kernel_rfl) (fun β => by kernel_rfl) (fun β w1 k1 h1 => (by have h := inside_any (elI (lnT T (p.n.N + 1)) j) (p.n.out b j) w1; rw [hd5] at h; exact h))⟩,
                                              tri_quietW (fun β => [(132, .bool false)]) [] [] (fun β => [(.bool false, .bool false)]) (by kernel_rfl) (fun β extra => by kernel_rfl) (by kernel_rfl) (fun β => ⟨rfl, trivial⟩)⟩,
                                              tri_quietW (fun β => []) [] [] (fun β => []) (by kernel_rfl) (fun β extra => by kernel_rfl) (by kernel_rfl) (fun β => trivial)⟩,
                                              tri_quietW (fun β => []) [] [] (fun β => []) (by kernel_rfl) (fun β extra => by kernel_rfl) (by kernel_rfl) (fun β => trivial)⟩,
                                              tri_quietW (fun β => []) [] [] (fun β => []) (by kernel_rfl) (fun β extra => by kernel_rfl) (by kernel_rfl) (fun β => trivial)⟩,
                                              tri_quietW (fun β => []) [] [] (fun β => []) (by kernel_rfl) (fun β extra => by kernel_rfl) (by kernel_rfl) (fun β => trivial)⟩,
                                              tri_quietW (fun β => [(137, iV qn)]) [] [] (fun β => [(iV (IntKind.i64.wrap (elI (lnT T (p.n.N + 1)) j * gv)), iV qn)]) (by kernel_rfl) (fun β extra => by kernel_rfl) (by kernel_rfl) (fun β => ⟨((wr (by omega) (by omega)).trans (io hqn)), trivial⟩)⟩,
                                              tri_callVW (fun β => iV (dwn qn)) (fun β => by kernel_rfl) 26 (fun β => #[iV qn]) (by kernel_rfl) (fun β extra => by kernel_rfl) (fun β => by kernel_rfl) (fun β w1 k1 h1 => ldown_any qn (by omega) (by omega) w1)⟩,
                                              tri_quietW (fun β => []) [0] [0] (fun β => [(pA b4, pA b4)]) (by kernel_rfl) (fun β extra => by kernel_rfl) (by kernel_rfl) (fun β => ⟨rfl, trivial⟩)⟩,
                                              tri_callVW (fun β => .bool true) (fun β => by kernel_rfl) 25 (fun β => #[iV (dwn qn), .agg #[iV ((lonS (p.n.out b j) (elB p.bs b).2.2.2.2).1), iV ((lonS (p.n.out b j) (elB p.bs b).2.2.2.2).2)]]) (by kernel_rfl) (fun β extra => by kernel_rfl) (fun β => by kernel_rfl) (fun β w1 k1 h1 => (by have h := inside_any (dwn qn) (lonS (p.n.out b j) (elB p.bs b).2.2.2.2) w1; rw [hd6] at h; exact h))⟩,
                                              tri_quietW (fun β => [(141, .bool false)]) [] [] (fun β => [(.bool false, .bool false)]) (by kernel_rfl) (fun β extra => by kernel_rfl) (by kernel_rfl) (fun β => ⟨rfl, trivial⟩)⟩,
                                              tri_quietW (fun β => []) [] [] (fun β => []) (by kernel_rfl) (fun β extra => by kernel_rfl) (by kernel_rfl) (fun β => trivial)⟩,
                                              tri_quietW (fun β => []) [] [] (fun β => []) (by kernel_rfl) (fun β extra => by kernel_rfl) (by kernel_rfl) (fun β => trivial)⟩,
                                              tri_quietW (fun β => []) [] [] (fun β => []) (by kernel_rfl) (fun β extra => by kernel_rfl) (by kernel_rfl) (fun β => trivial)⟩,
                                              tri_quietW (fun β => [(145, .bool false)]) [] [] (fun β => [(.bool (jv == 2), .bool false)]) (by kernel_rfl) (fun β extra => by kernel_rfl) (by kernel_rfl) (fun β => ⟨(bo hd7), trivial⟩)⟩,
                                              tri_quietW (fun β => []) [] [] (fun β => []) (by kernel_rfl) (fun β extra => by kernel_rfl) (by kernel_rfl) (fun β => trivial)⟩,
                                              tri_quietW (fun β => []) [] [] (fun β => []) (by kernel_rfl) (fun β extra => by kernel_rfl) (by kernel_rfl) (fun β => trivial)⟩,
                                              tri_quietW (fun β => []) [] [] (fun β => []) (by kernel_rfl) (fun β extra => by kernel_rfl) (by kernel_rfl) (fun β => trivial)⟩,
                                              tri_quietW (fun β => []) [] [] (fun β => []) (by kernel_rfl) (fun β extra => by kernel_rfl) (by kernel_rfl) (fun β => trivial)⟩,
                                              tri_quietW (fun β => []) [] [] (fun β => []) (by kernel_rfl) (fun β extra => by kernel_rfl) (by kernel_rfl) (fun β => trivial)⟩,
                                              tri_quietW (fun β => []) [] [] (fun β => []) (by kernel_rfl) (fun β extra => by kernel_rfl) (by kernel_rfl) (fun β => trivial)⟩,
                                              tri_quietW (fun β => []) [] [] (fun β => []) (by kernel_rfl) (fun β extra => by kernel_rfl) (by kernel_rfl) (fun β => trivial)⟩,
                                              tri_quietW (fun β => [(153, .bool false)]) [] [] (fun β => [(.bool (jv == 0), .bool false)]) (by kernel_rfl) (fun β extra => by kernel_rfl) (by kernel_rfl) (fun β => ⟨(bo hd8), trivial⟩)⟩,
                                              tri_quietW (fun β => []) [] [] (fun β => []) (by kernel_rfl) (fun β extra => by kernel_rfl) (by kernel_rfl) (fun β => trivial)⟩,
                                              tri_quietW (fun β => []) [] [] (fun β => []) (by kernel_rfl) (fun β extra => by kernel_rfl) (by kernel_rfl) (fun β => trivial)⟩,
                                              tri_quietW (fun β => []) [] [] (fun β => []) (by kernel_rfl) (fun β extra => by kernel_rfl) (by kernel_rfl) (fun β => trivial)⟩,
                                              tri_quietW (fun β => []) [] [] (fun β => []) (by kernel_rfl) (fun β extra => by kernel_rfl) (by kernel_rfl) (fun β => trivial)⟩,
                                              tri_quietW (fun β => []) [] [] (fun β => []) (by kernel_rfl) (fun β extra => by kernel_rfl) (by kernel_rfl) (fun β => trivial)⟩,
                                              tri_quietW (fun β => []) [] [] (fun β => []) (by kernel_rfl) (fun β extra => by kernel_rfl) (by kernel_rfl) (fun β => trivial)⟩,
                                              tri_quietW (fun β => [(160, .bool false)]) [] [] (fun β => [(.bool (fe == 0), .bool false)]) (by kernel_rfl) (fun β extra => by kernel_rfl) (by kernel_rfl) (fun β => ⟨(bo hd9), trivial⟩)⟩,
                                              tri_quietW (fun β => []) [] [] (fun β => []) (by kernel_rfl) (fun β extra => by kernel_rfl) (by kernel_rfl) (fun β => trivial)⟩,
                                              tri_quietW (fun β => []) [] [] (fun β => []) (by kernel_rfl) (fun β extra => by kernel_rfl) (by kernel_rfl) (fun β => trivial)⟩,
                                              tri_quietW (fun β => []) [] [] (fun β => []) (by kernel_rfl) (fun β extra => by kernel_rfl) (by kernel_rfl) (fun β => trivial)⟩,
                                              tri_quietW (fun β => []) [] [] (fun β => []) (by kernel_rfl) (fun β extra => by kernel_rfl) (by kernel_rfl) (fun β => trivial)⟩,
                                              tri_quietW (fun β => []) [] [] (fun β => []) (by kernel_rfl) (fun β extra => by kernel_rfl) (by kernel_rfl) (fun β => trivial)⟩,
                                              tri_quietW (fun β => []) [] [] (fun β => []) (by kernel_rfl) (fun β extra => by kernel_rfl) (by kernel_rfl) (fun β => trivial)⟩,
                                              tri_quietW (fun β => []) [] [] (fun β => []) (by kernel_rfl) (fun β extra => by kernel_rfl) (by kernel_rfl) (fun β => trivial)⟩,
                                              tri_quietW (fun β => []) [] [] (fun β => []) (by kernel_rfl) (fun β extra => by kernel_rfl) (by kernel_rfl) (fun β => trivial)⟩,
                                              tri_quietW (fun β => []) [] [] (fun β => []) (by kernel_rfl) (fun β extra => by kernel_rfl) (by kernel_rfl) (fun β => trivial)⟩,
                                              tri_quietW (fun β => []) [] [] (fun β => []) (by kernel_rfl) (fun β extra => by kernel_rfl) (by kernel_rfl) (fun β => trivial)⟩
                                              (fun β => ⟨[(3, pA b1), (6, .bool false), (7, iV (b : Int)), (9, iV gv), (10, iV fv), (11, iV fe), (82, sV g2 (p.n.N + 1) cap2), (83, iV ((p.n.N + 1) : Int)), (84, iV (j : Int)), (170, .bool false)], [(g2, cO ((lnT T (p.n.N + 1)).flatMap inR ++ sp2) 3), (b1, aO #[.slice p.ba p.bs.length p.bc, iV p.near, iV p.last, .slice p.ta p.ts.length p.tc] 33)]⟩) (fun β => by kernel_rfl) (fun β5 => ?_)
                      refine run_auto [(171, iV ((j + 1 : Nat) : Int))] 7 [false] [] [3, 6, 7, 9, 10, 11, 82, 83, 84] [0, 1] (st' := ⟨[(3, pA b1), (6, .bool false), (7, iV (b : Int)), (9, iV gv), (10, iV fv), (11, iV fe), (82, sV g2 (p.n.N + 1) cap2), (83, iV ((p.n.N + 1) : Int)), (84, iV ((j + 1 : Nat) : Int))], [(g2, cO ((lnT T (p.n.N + 1)).flatMap inR ++ sp2) 3), (b1, aO #[.slice p.ba p.bs.length p.bc, iV p.near, iV p.last, .slice p.ta p.ts.length p.tc] 33)]⟩) (acc := [(iV (IntKind.i64.wrap ((j : Int) + 1)), iV ((j + 1 : Nat) : Int)), (.bool false, .bool false)]) (by kernel_rfl) (by kernel_rfl) ⟨(wr (by omega) (by omega)), rfl, trivial⟩ ?_
                      exact run_round (by kernel_rfl) (hJ0 (j + 1) (by omega) (by omega))
                    | true =>
                      have hp9 : fe = 0 := by simpa using hd9
                      cases hd10 : (decide (fv ≤ (j : Int))) with
                      | false =>
                        have hp10 := of_decide_eq_false hd10
                        refine drawW 53 [{ val := fun _ => iV 0, slots := [17] },
                                                  { val := fun _ => .bool false, slots := [118] },
                                                  { val := fun _ => .bool false, slots := [119] },
                                                  { val := fun _ => iV 0, slots := [19, 120] },
                                                  { val := fun _ => .bool false, slots := [120, 121] },
                                                  { val := fun _ => .bool false, slots := [120, 122] },
                                                  { val := fun _ => .bool false, slots := [123] },
                                                  { val := fun _ => iV 0, slots := [21, 124] },
                                                  { val := fun _ => .bool false, slots := [124, 125] },
                                                  { val := fun _ => .bool false, slots := [124, 126] },
                                                  { val := fun _ => .bool false, slots := [127] },
                                                  { val := fun _ => iV (elI (lnT T (p.n.N + 1)) j), slots := [15, 128] },
                                                  { val := fun _ => .agg #[iV (p.n.out b j).1, iV (p.n.out b j).2], slots := [16, 128], reads := [1] },
                                                  { val := fun _ => .bool true, slots := [128, 129, 130] },
                                                  { val := fun _ => .bool false, slots := [128, 131] },
                                                  { val := fun _ => .bool false, slots := [128, 132] },
                                                  { val := fun _ => .bool false, slots := [133] },
                                                  { val := fun _ => iV (elI (lnT T (p.n.N + 1)) j), slots := [15, 134] },
                                                  { val := fun _ => iV gv, slots := [9, 134] },
                                                  { val := fun _ => iV qn, slots := [134, 135, 136] },
                                                  { val := fun _ => iV (dwn qn), slots := [134, 137] },
                                                  { val := fun _ => .agg #[iV ((lonS (p.n.out b j) (elB p.bs b).2.2.2.2).1), iV ((lonS (p.n.out b j) (elB p.bs b).2.2.2.2).2)], slots := [18, 134], reads := [0] },
                                                  { val := fun _ => .bool true, slots := [134, 138, 139] },
                                                  { val := fun _ => .bool false, slots := [134, 140] },
                                                  { val := fun _ => .bool false, slots := [134, 141] },
                                                  { val := fun _ => .bool false, slots := [142] },
                                                  { val := fun _ => iV jv, slots := [20, 143] },
                                                  { val := fun _ => .bool false, slots := [143, 144] },
                                                  { val := fun _ => .bool false, slots := [143, 145] },
                                                  { slots := [146] },
                                                  { slots := [146] },
                                                  { val := fun _ => .bool false, slots := [143, 146, 148] },
                                                  { val := fun _ => .bool false, slots := [143, 149] },
                                                  { val := fun _ => .bool false, slots := [150] },
                                                  { val := fun _ => iV jv, slots := [20, 151] },
                                                  { val := fun _ => .bool false, slots := [151, 152] },
                                                  { val := fun _ => .bool false, slots := [151, 153] },
                                                  { slots := [154] },
                                                  { val := fun _ => .bool false, slots := [151, 154, 155] },
                                                  { val := fun _ => .bool false, slots := [151, 156] },
                                                  { val := fun _ => .bool false, slots := [157] },
                                                  { val := fun _ => iV fe, slots := [11, 158] },
                                                  { val := fun _ => .bool true, slots := [158, 159] },
                                                  { val := fun _ => .bool true, slots := [158, 160] },
                                                  { val := fun _ => iV (j : Int), slots := [14, 161] },
                                                  { val := fun _ => iV fv, slots := [10, 161] },
                                                  { val := fun _ => .bool false, slots := [161, 162, 163] },
                                                  { val := fun _ => .bool false, slots := [158, 161, 164] },
                                                  { val := fun _ => .bool false, slots := [158, 165] },
                                                  { slots := [166] },
                                                  { slots := [166] },
                                                  { val := fun _ => .bool false, slots := [158, 166, 168] },
                                                  { val := fun _ => .bool false, slots := [158, 169] }] [[], [0], [0, 1], [0, 1, 2], [0, 1, 2, 3], [0, 1, 2, 3, 4], [0, 1, 2, 3, 4, 5], [0, 1, 2, 3, 4, 5, 6], [0, 1, 2, 3, 4, 5, 6, 7], [0, 1, 2, 3, 4, 5, 6, 7, 8], [0, 1, 2, 3, 4, 5, 6, 7, 8, 9], [0, 1, 2, 3, 4, 5, 6, 7, 8, 9, 10], [0, 1, 2, 3, 4, 5, 6, 7, 8, 9, 10], [0, 1, 2, 3, 4, 5, 6, 7, 8, 9, 10, 11, 12], [0, 1, 2, 3, 4, 5, 6, 7, 8, 9, 10, 11, 12, 13], [0, 1, 2, 3, 4, 5, 6, 7, 8, 9, 10, 11, 12, 13, 14], [0, 1, 2, 3, 4, 5, 6, 7, 8, 9, 10, 11, 12, 13, 14, 15], [0, 1, 2, 3, 4, 5, 6, 7, 8, 9, 10, 11, 12, 13, 14, 15, 16], [0, 1, 2, 3, 4, 5, 6, 7, 8, 9, 10, 11, 12, 13, 14, 15, 16], [0, 1, 2, 3, 4, 5, 6, 7, 8, 9, 10, 11, 12, 13, 14, 15, 16, 17, 18], [0, 1, 2, 3, 4, 5, 6, 7, 8, 9, 10, 11, 12, 13, 14, 15, 16, 17, 18, 19], [0, 1, 2, 3, 4, 5, 6, 7, 8, 9, 10, 11, 12, 13, 14, 15, 16], [0, 1, 2, 3, 4, 5, 6, 7, 8, 9, 10, 11, 12, 13, 14, 15, 16, 17, 18, 19, 20, 21], [0, 1, 2, 3, 4, 5, 6, 7, 8, 9, 10, 11, 12, 13, 14, 15, 16, 17, 18, 19, 20, 21, 22], [0, 1, 2, 3, 4, 5, 6, 7, 8, 9, 10, 11, 12, 13, 14, 15, 16, 17, 18, 19, 20, 21, 22, 23], [0, 1, 2, 3, 4, 5, 6, 7, 8, 9, 10, 11, 12, 13, 14, 15, 16, 17, 18, 19, 20, 21, 22, 23, 24], [0, 1, 2, 3, 4, 5, 6, 7, 8, 9, 10, 11, 12, 13, 14, 15, 16, 17, 18, 19, 20, 21, 22, 23, 24, 25], [0, 1, 2, 3, 4, 5, 6, 7, 8, 9, 10, 11, 12, 13, 14, 15, 16, 17, 18, 19, 20, 21, 22, 23, 24, 25, 26], [0, 1, 2, 3, 4, 5, 6, 7, 8, 9, 10, 11, 12, 13, 14, 15, 16, 17, 18, 19, 20, 21, 22, 23, 24, 25, 26, 27], [0, 1, 2, 3, 4, 5, 6, 7, 8, 9, 10, 11, 12, 13, 14, 15, 16, 17, 18, 19, 20, 21, 22, 23, 24, 25, 26, 27, 28], [0, 1, 2, 3, 4, 5, 6, 7, 8, 9, 10, 11, 12, 13, 14, 15, 16, 17, 18, 19, 20, 21, 22, 23, 24, 25, 26, 27, 28, 29], [0, 1, 2, 3, 4, 5, 6, 7, 8, 9, 10, 11, 12, 13, 14, 15, 16, 17, 18, 19, 20, 21, 22, 23, 24, 25, 26, 27, 28, 29, 30], [0, 1, 2, 3, 4, 5, 6, 7, 8, 9, 10, 11, 12, 13, 14, 15, 16, 17, 18, 19, 20, 21, 22, 23, 24, 25, 26, 27, 28, 29, 30, 31], [0, 1, 2, 3, 4, 5, 6, 7, 8, 9, 10, 11, 12, 13, 14, 15, 16, 17, 18, 19, 20, 21, 22, 23, 24, 25, 26, 27, 28, 29, 30, 31, 32], [0, 1, 2, 3, 4, 5, 6, 7, 8, 9, 10, 11, 12, 13, 14, 15, 16, 17, 18, 19, 20, 21, 22, 23, 24, 25, 26, 27, 28, 29, 30, 31, 32, 33], [0, 1, 2, 3, 4, 5, 6, 7, 8, 9, 10, 11, 12, 13, 14, 15, 16, 17, 18, 19, 20, 21, 22, 23, 24, 25, 26, 27, 28, 29, 30, 31, 32, 33, 34], [0, 1, 2, 3, 4, 5, 6, 7, 8, 9, 10, 11, 12, 13, 14, 15, 16, 17, 18, 19, 20, 21, 22, 23, 24, 25, 26, 27, 28, 29, 30, 31, 32, 33, 34, 35], [0, 1, 2, 3, 4, 5, 6, 7, 8, 9, 10, 11, 12, 13, 14, 15, 16, 17, 18, 19, 20, 21, 22, 23, 24, 25, 26, 27, 28, 29, 30, 31, 32, 33, 34, 35, 36], [0, 1, 2, 3, 4, 5, 6, 7, 8, 9, 10, 11, 12, 13, 14, 15, 16, 17, 18, 19, 20, 21, 22, 23, 24, 25, 26, 27, 28, 29, 30, 31, 32, 33, 34, 35, 36, 37], [0, 1, 2, 3, 4, 5, 6, 7, 8, 9, 10, 11, 12, 13, 14, 15, 16, 17, 18, 19, 20, 21, 22, 23, 24, 25, 26, 27, 28, 29, 30, 31, 32, 33, 34, 35, 36, 37, 38], [0, 1, 2, 3, 4, 5, 6, 7, 8, 9, 10, 11, 12, 13, 14, 15, 16, 17, 18, 19, 20, 21, 22, 23, 24, 25, 26, 27, 28, 29, 30, 31, 32, 33, 34, 35, 36, 37, 38, 39], [0, 1, 2, 3, 4, 5, 6, 7, 8, 9, 10, 11, 12, 13, 14, 15, 16, 17, 18, 19, 20, 21, 22, 23, 24, 25, 26, 27, 28, 29, 30, 31, 32, 33, 34, 35, 36, 37, 38, 39, 40], [0, 1, 2, 3, 4, 5, 6, 7, 8, 9, 10, 11, 12, 13, 14, 15, 16, 17, 18, 19, 20, 21, 22, 23, 24, 25, 26, 27, 28, 29, 30, 31, 32, 33, 34, 35, 36, 37, 38, 39, 40, 41], [0, 1, 2, 3, 4, 5, 6, 7, 8, 9, 10, 11, 12, 13, 14, 15, 16, 17, 18, 19, 20, 21, 22, 23, 24, 25, 26, 27, 28, 29, 30, 31, 32, 33, 34, 35, 36, 37, 38, 39, 40, 41, 42], [0, 1, 2, 3, 4, 5, 6, 7, 8, 9, 10, 11, 12, 13, 14, 15, 16, 17, 18, 19, 20, 21, 22, 23, 24, 25, 26, 27, 28, 29, 30, 31, 32, 33, 34, 35, 36, 37, 38, 39, 40, 41, 42, 43], [0, 1, 2, 3, 4, 5, 6, 7, 8, 9, 10, 11, 12, 13, 14, 15, 16, 17, 18, 19, 20, 21, 22, 23, 24, 25, 26, 27, 28, 29, 30, 31, 32, 33, 34, 35, 36, 37, 38, 39, 40, 41, 42, 43], [0, 1, 2, 3, 4, 5, 6, 7, 8, 9, 10, 11, 12, 13, 14, 15, 16, 17, 18, 19, 20, 21, 22, 23, 24, 25, 26, 27, 28, 29, 30, 31, 32, 33, 34, 35, 36, 37, 38, 39, 40, 41, 42, 43, 44, 45], [0, 1, 2, 3, 4, 5, 6, 7, 8, 9, 10, 11, 12, 13, 14, 15, 16, 17, 18, 19, 20, 21, 22, 23, 24, 25, 26, 27, 28, 29, 30, 31, 32, 33, 34, 35, 36, 37, 38, 39, 40, 41, 42, 43, 44, 45, 46], [0, 1, 2, 3, 4, 5, 6, 7, 8, 9, 10, 11, 12, 13, 14, 15, 16, 17, 18, 19, 20, 21, 22, 23, 24, 25, 26, 27, 28, 29, 30, 31, 32, 33, 34, 35, 36, 37, 38, 39, 40, 41, 42, 43, 44, 45, 46, 47], [0, 1, 2, 3, 4, 5, 6, 7, 8, 9, 10, 11, 12, 13, 14, 15, 16, 17, 18, 19, 20, 21, 22, 23, 24, 25, 26, 27, 28, 29, 30, 31, 32, 33, 34, 35, 36, 37, 38, 39, 40, 41, 42, 43, 44, 45, 46, 47, 48], [0, 1, 2, 3, 4, 5, 6, 7, 8, 9, 10, 11, 12, 13, 14, 15, 16, 17, 18, 19, 20, 21, 22, 23, 24, 25, 26, 27, 28, 29, 30, 31, 32, 33, 34, 35, 36, 37, 38, 39, 40, 41, 42, 43, 44, 45, 46, 47, 48, 49], [0, 1, 2, 3, 4, 5, 6, 7, 8, 9, 10, 11, 12, 13, 14, 15, 16, 17, 18, 19, 20, 21, 22, 23, 24, 25, 26, 27, 28, 29, 30, 31, 32, 33, 34, 35, 36, 37, 38, 39, 40, 41, 42, 43, 44, 45, 46, 47, 48, 49, 50], [0, 1, 2, 3, 4, 5, 6, 7, 8, 9, 10, 11, 12, 13, 14, 15, 16, 17, 18, 19, 20, 21, 22, 23, 24, 25, 26, 27, 28, 29, 30, 31, 32, 33, 34, 35, 36, 37, 38, 39, 40, 41, 42, 43, 44, 45, 46, 47, 48, 49, 50, 51]] (by kernel_rfl) (by kernel_rfl) (by kernel_rfl) (by kernel_rfl) [3, 6, 7, 9, 10, 11, 82, 83, 84, 170] [2, 3] (by kernel_rfl)
                                                  ⟨⟨⟨⟨⟨⟨⟨⟨⟨⟨⟨⟨⟨⟨⟨⟨⟨⟨⟨⟨⟨⟨⟨⟨⟨⟨⟨⟨⟨⟨⟨⟨⟨⟨⟨⟨⟨⟨⟨⟨⟨⟨⟨⟨⟨⟨⟨⟨⟨⟨⟨⟨⟨trivial,
                                                  tri_quietW (fun β => []) [] [] (fun β => []) (by kernel_rfl) (fun β extra => by kernel_rfl) (by kernel_rfl) (fun β => trivial)⟩,
                                                  tri_quietW (fun β => [(119, .bool false)]) [] [] (fun β => [(.bool false, .bool false)]) (by kernel_rfl) (fun β extra => by kernel_rfl) (by kernel_rfl) (fun β => ⟨rfl, trivial⟩)⟩,
                                                  tri_quietW (fun β => []) [] [] (fun β => []) (by kernel_rfl) (fun β extra => by kernel_rfl) (by kernel_rfl) (fun β => trivial)⟩,
                                                  tri_quietW (fun β => []) [] [] (fun β => []) (by kernel_rfl) (fun β extra => by kernel_rfl) (by kernel_rfl) (fun β => trivial)⟩,
                                                  tri_quietW (fun β => [(122, .bool false)]) [] [] (fun β => [(.bool false, .bool false)]) (by kernel_rfl) (fun β extra => by kernel_rfl) (by kernel_rfl) (fun β => ⟨rfl, trivial⟩)⟩,
                                                  tri_quietW (fun β => []) [] [] (fun β => []) (by kernel_rfl) (fun β extra => by kernel_rfl) (by kernel_rfl) (fun β => trivial)⟩,
                                                  tri_quietW (fun β => []) [] [] (fun β => []) (by kernel_rfl) (fun β extra => by kernel_rfl) (by kernel_rfl) (fun β => trivial)⟩,
                                                  tri_quietW (fun β => []) [] [] (fun β => []) (by kernel_rfl) (fun β extra => by kernel_rfl) (by kernel_rfl) (fun β => trivial)⟩,
                                                  tri_quietW (fun β => [(126, .bool false)]) [] [] (fun β => [(.bool false, .bool false)]) (by kernel_rfl) (fun β extra => by kernel_rfl) (by kernel_rfl) (fun β => ⟨rfl, trivial⟩)⟩,
                                                  tri_quietW (fun β => []) [] [] (fun β => []) (by kernel_rfl) (fun β extra => by kernel_rfl) (by kernel_rfl) (fun β => trivial)⟩,
                                                  tri_quietW (fun β => []) [] [] (fun β => []) (by kernel_rfl) (fun β extra => by kernel_rfl) (by kernel_rfl) (fun β => trivial)⟩,
                                                  tri_quietW (fun β => []) [] [] (fun β => []) (by kernel_rfl) (fun β extra => by kernel_rfl) (by kernel_rfl) (fun β => trivial)⟩,
                                                  tri_quietW (fun β => []) [0] [0] (fun β => [(pA b3, pA b3)]) (by kernel_rfl) (fun β extra => by kernel_rfl) (by kernel_rfl) (fun β => ⟨rfl, trivial⟩)⟩,
                                                  tri_callVW (fun β => .bool true) (fun β => by kernel_rfl) 25 (fun β => #[iV (elI (lnT T (p.n.N + 1)) j), .agg #[iV (p.n.out b j).1, iV (p.n.out b j).2]]) (by kernel_rfl) (fun β extra => by kernel_rfl) (fun β => by kernel_rfl) (fun β w1 k1 h1 => (by have h := inside_any (elI (lnT T (p.n.N + 1)) j) (p.n.out b j) w1; rw [hd5] at h; exact h))⟩,
                                                  tri_quietW (fun β => [(132, .bool false)]) [] [] (fun β => [(.bool false, .bool false)]) (by kernel_rfl) (fun β extra => by kernel_rfl) (by kernel_rfl) (fun β => ⟨rfl, trivial⟩)⟩,
                                                  tri_quietW (fun β => []) [] [] (fun β => []) (by kernel_rfl) (fun β extra => by kernel_rfl) (by kernel_rfl) (fun β => trivial)⟩,
                                                  tri_quietW (fun β => []) [] [] (fun β => []) (by kernel_rfl) (fun β extra => by kernel_rfl) (by kernel_rfl) (fun β => trivial)⟩,
                                                  tri_quietW (fun β => []) [] [] (fun β => []) (by kernel_rfl) (fun β extra => by kernel_rfl) (by kernel_rfl) (fun β => trivial)⟩,
                                                  tri_quietW (fun β => []) [] [] (fun β => []) (by kernel_rfl) (fun β extra => by kernel_rfl) (by kernel_rfl) (fun β => trivial)⟩,
                                                  tri_quietW (fun β => [(137, iV qn)]) [] [] (fun β => [(iV (IntKind.i64.wrap (elI (lnT T (p.n.N + 1)) j * gv)), iV qn)]) (by kernel_rfl) (fun β extra => by kernel_rfl) (by kernel_rfl) (fun β => ⟨((wr (by omega) (by omega)).trans (io hqn)), trivial⟩)⟩,
                                                  tri_callVW (fun β => iV (dwn qn)) (fun β => by kernel_rfl) 26 (fun β => #[iV qn]) (by kernel_rfl) (fun β extra => by kernel_rfl) (fun β => by kernel_rfl) (fun β w1 k1 h1 => ldown_any qn (by omega) (by omega) w1)⟩,
                                                  tri_quietW (fun β => []) [0] [0] (fun β => [(pA b4, pA b4)]) (by kernel_rfl) (fun β extra => by kernel_rfl) (by kernel_rfl) (fun β => ⟨rfl, trivial⟩)⟩,
                                                  tri_callVW (fun β => .bool true) (fun β => by kernel_rfl) 25 (fun β => #[iV (dwn qn), .agg #[iV ((lonS (p.n.out b j) (elB p.bs b).2.2.2.2).1), iV ((lonS (p.n.out b j) (elB p.bs b).2.2.2.2).2)]]) (by kernel_rfl) (fun β extra => by kernel_rfl) (fun β => by kernel_rfl) (fun β w1 k1 h1 => (by have h := inside_any (dwn qn) (lonS (p.n.out b j) (elB p.bs b).2.2.2.2) w1; rw [hd6] at h; exact h))⟩,
                                                  tri_quietW (fun β => [(141, .bool false)]) [] [] (fun β => [(.bool false, .bool false)]) (by kernel_rfl) (fun β extra => by kernel_rfl) (by kernel_rfl) (fun β => ⟨rfl, trivial⟩)⟩,
                                                  tri_quietW (fun β => []) [] [] (fun β => []) (by kernel_rfl) (fun β extra => by kernel_rfl) (by kernel_rfl) (fun β => trivial)⟩,
                                                  tri_quietW (fun β => []) [] [] (fun β => []) (by kernel_rfl) (fun β extra => by kernel_rfl) (by kernel_rfl) (fun β => trivial)⟩,
                                                  tri_quietW (fun β => []) [] [] (fun β => []) (by kernel_rfl) (fun β extra => by kernel_rfl) (by kernel_rfl) (fun β => trivial)⟩,
                                                  tri_quietW (fun β => [(145, .bool false)]) [] [] (fun β => [(.bool (jv == 2), .bool false)]) (by kernel_rfl) (fun β extra => by kernel_rfl) (by kernel_rfl) (fun β => ⟨(bo hd7), trivial⟩)⟩,
                                                  tri_quietW (fun β => []) [] [] (fun β => []) (by kernel_rfl) (fun β extra => by kernel_rfl) (by kernel_rfl) (fun β => trivial)⟩,
                                                  tri_quietW (fun β => []) [] [] (fun β => []) (by kernel_rfl) (fun β extra => by kernel_rfl) (by kernel_rfl) (fun β => trivial)⟩,
                                                  tri_quietW (fun β => []) [] [] (fun β => []) (by kernel_rfl) (fun β extra => by kernel_rfl) (by kernel_rfl) (fun β => trivial)⟩,
                                                  tri_quietW (fun β => []) [] [] (fun β => []) (by kernel_rfl) (fun β extra => by kernel_rfl) (by kernel_rfl) (fun β => trivial)⟩,
                                                  tri_quietW (fun β => []) [] [] (fun β => []) (by kernel_rfl) (fun β extra => by kernel_rfl) (by kernel_rfl) (fun β => trivial)⟩,
                                                  tri_quietW (fun β => []) [] [] (fun β => []) (by kernel_rfl) (fun β extra => by kernel_rfl) (by kernel_rfl) (fun β => trivial)⟩,
                                                  tri_quietW (fun β => []) [] [] (fun β => []) (by kernel_rfl) (fun β extra => by kernel_rfl) (by kernel_rfl) (fun β => trivial)⟩,
                                                  tri_quietW (fun β => [(153, .bool false)]) [] [] (fun β => [(.bool (jv == 0), .bool false)]) (by kernel_rfl) (fun β extra => by kernel_rfl) (by kernel_rfl) (fun β => ⟨(bo hd8), trivial⟩)⟩,
                                                  tri_quietW (fun β => []) [] [] (fun β => []) (by kernel_rfl) (fun β extra => by kernel_rfl) (by kernel_rfl) (fun β => trivial)⟩,
                                                  tri_quietW (fun β => []) [] [] (fun β => []) (by kernel_rfl) (fun β extra => by kernel_rfl) (by kernel_rfl) (fun β => trivial)⟩,
                                                  tri_quietW (fun β => []) [] [] (fun β => []) (by kernel_rfl) (fun β extra => by kernel_rfl) (by kernel_rfl) (fun β => trivial)⟩,
                                                  tri_quietW (fun β => []) [] [] (fun β => []) (by kernel_rfl) (fun β extra => by kernel_rfl) (by kernel_rfl) (fun β => trivial)⟩,
                                                  tri_quietW (fun β => []) [] [] (fun β => []) (by kernel_rfl) (fun β extra => by kernel_rfl) (by kernel_rfl) (fun β => trivial)⟩,
                                                  tri_quietW (fun β => []) [] [] (fun β => []) (by kernel_rfl) (fun β extra => by kernel_rfl) (by kernel_rfl) (fun β => trivial)⟩,
                                                  tri_quietW (fun β => [(160, .bool true)]) [] [] (fun β => [(.bool (fe == 0), .bool true)]) (by kernel_rfl) (fun β extra => by kernel_rfl) (by kernel_rfl) (fun β => ⟨(bo hd9), trivial⟩)⟩,
                                                  tri_quietW (fun β => []) [] [] (fun β => []) (by kernel_rfl) (fun β extra => by kernel_rfl) (by kernel_rfl) (fun β => trivial)⟩,
                                                  tri_quietW (fun β => []) [] [] (fun β => []) (by kernel_rfl) (fun β extra => by kernel_rfl) (by kernel_rfl) (fun β => trivial)⟩,
                                                  tri_quietW (fun β => []) [] [] (fun β => []) (by kernel_rfl) (fun β extra => by kernel_rfl) (by kernel_rfl) (fun β => trivial)⟩,
                                                  tri_quietW (fun β => [(164, .bool false)]) [] [] (fun β => [(.bool (decide (fv ≤ (j : Int))), .bool false)]) (by kernel_rfl) (fun β extra => by kernel_rfl) (by kernel_rfl) (fun β => ⟨(bo hd10), trivial⟩)⟩,
                                                  tri_quietW (fun β => []) [] [] (fun β => []) (by kernel_rfl) (fun β extra => by kernel_rfl) (by kernel_rfl) (fun β => trivial)⟩,
                                                  tri_quietW (fun β => []) [] [] (fun β => []) (by kernel_rfl) (fun β extra => by kernel_rfl) (by kernel_rfl) (fun β => trivial)⟩,
                                                  tri_quietW (fun β => []) [] [] (fun β => []) (by kernel_rfl) (fun β extra => by kernel_rfl) (by kernel_rfl) (fun β => trivial)⟩,
                                                  tri_quietW (fun β => []) [] [] (fun β => []) (by kernel_rfl) (fun β extra => by kernel_rfl) (by kernel_rfl) (fun β => trivial)⟩,
                                                  tri_quietW (fun β => []) [] [] (fun β => []) (by kernel_rfl) (fun β extra => by kernel_rfl) (by kernel_rfl) (fun β => trivial)⟩,
                                                  tri_quietW (fun β => []) [] [] (fun β => []) (by kernel_rfl) (fun β extra => by kernel_rfl) (by kernel_rfl) (fun β => trivial)⟩
                                                  (fun β => ⟨[(3, pA b1), (6, .bool false), (7, iV (b : Int)), (9, iV gv), (10, iV fv), (11, iV fe), (82, sV g2 (p.n.N + 1) cap2), (83, iV ((p.n.N + 1) : Int)), (84, iV (j : Int)), (170, .bool false)], [(g2, cO ((lnT T (p.n.N + 1)).flatMap inR ++ sp2) 3), (b1, aO #[.slice p.ba p.bs.length p.bc, iV p.near, iV p.last, .slice p.ta p.ts.length p.tc] 33)]⟩) (fun β => by kernel_rfl) (fun β5 => ?_)
                        refine run_auto [(171, iV ((j + 1 : Nat) : Int))] 7 [false] [] [3, 6, 7, 9, 10, 11, 82, 83, 84] [0, 1] (st' := ⟨[(3, pA b1), (6, .bool false), (7, iV (b : Int)), (9, iV gv), (10, iV fv), (11, iV fe), (82, sV g2 (p.n.N + 1) cap2), (83, iV ((p.n.N + 1) : Int)), (84, iV ((j + 1 : Nat) : Int))], [(g2, cO ((lnT T (p.n.N + 1)).flatMap inR ++ sp2) 3), (b1, aO #[.slice p.ba p.bs.length p.bc, iV p.near, iV p.last, .slice p.ta p.ts.length p.tc] 33)]⟩) (acc := [(iV (IntKind.i64.wrap ((j : Int) + 1)), iV ((j + 1 : Nat) : Int)), (.bool false, .bool false)]) (by kernel_rfl) (by kernel_rfl) ⟨(wr (by omega) (by omega)), rfl, trivial⟩ ?_
                        exact run_round (by kernel_rfl) (hJ0 (j + 1) (by omega) (by omega))
                      | true =>
                        have hp10 := of_decide_eq_true hd10
                        exfalso
                        omega
                  | true =>
                    have hp8 : jv = 0 := by simpa using hd8
                    exfalso
                    omega
                | true =>
                  have hp7 : jv = 2 := by simpa using hd7
                  cases hd8 : (jv == 0) with
                  | false =>
                    have hp8 : ¬ jv = 0 := by simpa using hd8
                    cases hd9 : (fe == 0) with
                    | false =>
                      have hp9 : ¬ fe = 0 := by simpa using hd9
                      refine drawW 53 [{ val := fun _ => iV 0, slots := [17] },
                                              { val := fun _ => .bool false, slots := [118] },
                                              { val := fun _ => .bool false, slots := [119] },
                                              { val := fun _ => iV 0, slots := [19, 120] },
                                              { val := fun _ => .bool false, slots := [120, 121] },
                                              { val := fun _ => .bool false, slots := [120, 122] },
                                              { val := fun _ => .bool false, slots := [123] },
                                              { val := fun _ => iV 0, slots := [21, 124] },
                                              { val := fun _ => .bool false, slots := [124, 125] },
                                              { val := fun _ => .bool false, slots := [124, 126] },
                                              { val := fun _ => .bool false, slots := [127] },
                                              { val := fun _ => iV (elI (lnT T (p.n.N + 1)) j), slots := [15, 128] },
                                              { val := fun _ => .agg #[iV (p.n.out b j).1, iV (p.n.out b j).2], slots := [16, 128], reads := [1] },
                                              { val := fun _ => .bool true, slots := [128, 129, 130] },
                                              { val := fun _ => .bool false, slots := [128, 131] },
                                              { val := fun _ => .bool false, slots := [128, 132] },
                                              { val := fun _ => .bool false, slots := [133] },
                                              { val := fun _ => iV (elI (lnT T (p.n.N + 1)) j), slots := [15, 134] },
                                              { val := fun _ => iV gv, slots := [9, 134] },
                                              { val := fun _ => iV qn, slots := [134, 135, 136] },
                                              { val := fun _ => iV (dwn qn), slots := [134, 137] },
                                              { val := fun _ => .agg #[iV ((lonS (p.n.out b j) (elB p.bs b).2.2.2.2).1), iV ((lonS (p.n.out b j) (elB p.bs b).2.2.2.2).2)], slots := [18, 134], reads := [0] },
                                              { val := fun _ => .bool true, slots := [134, 138, 139] },
                                              { val := fun _ => .bool false, slots := [134, 140] },
                                              { val := fun _ => .bool false, slots := [134, 141] },
                                              { val := fun _ => .bool false, slots := [142] },
                                              { val := fun _ => iV jv, slots := [20, 143] },
                                              { val := fun _ => .bool true, slots := [143, 144] },
                                              { val := fun _ => .bool true, slots := [143, 145] },
                                              { val := fun _ => .bool true, slots := [22, 146] },
                                              { val := fun _ => .bool false, slots := [146, 147] },
                                              { val := fun _ => .bool false, slots := [143, 146, 148] },
                                              { val := fun _ => .bool false, slots := [143, 149] },
                                              { val := fun _ => .bool false, slots := [150] },
                                              { val := fun _ => iV jv, slots := [20, 151] },
                                              { val := fun _ => .bool false, slots := [151, 152] },
                                              { val := fun _ => .bool false, slots := [151, 153] },
                                              { slots := [154] },
                                              { val := fun _ => .bool false, slots := [151, 154, 155] },
                                              { val := fun _ => .bool false, slots := [151, 156] },
                                              { val := fun _ => .bool false, slots := [157] },
                                              { val := fun _ => iV fe, slots := [11, 158] },
                                              { val := fun _ => .bool false, slots := [158, 159] },
                                              { val := fun _ => .bool false, slots := [158, 160] },
                                              { slots := [161] },
                                              { slots := [161] },
                                              { slots := [161] },
                                              { val := fun _ => .bool false, slots := [158, 161, 164] },
                                              { val := fun _ => .bool false, slots := [158, 165] },
                                              { slots := [166] },
                                              { slots := [166] },
                                              { val := fun _ => .bool false, slots := [158, 166, 168] },
                                              { val := fun _ => .bool false, slots := [158, 169] }] [[], [0], [0, 1], [0, 1, 2], [0, 1, 2, 3], [0, 1, 2, 3, 4], [0, 1, 2, 3, 4, 5], [0, 1, 2, 3, 4, 5, 6], [0, 1, 2, 3, 4, 5, 6, 7], [0, 1, 2, 3, 4, 5, 6, 7, 8], [0, 1, 2, 3, 4, 5, 6, 7, 8, 9], [0, 1, 2, 3, 4, 5, 6, 7, 8, 9, 10], [0, 1, 2, 3, 4, 5, 6, 7, 8, 9, 10], [0, 1, 2, 3, 4, 5, 6, 7, 8, 9, 10, 11, 12], [0, 1, 2, 3, 4, 5, 6, 7, 8, 9, 10, 11, 12, 13], [0, 1, 2, 3, 4, 5, 6, 7, 8, 9, 10, 11, 12, 13, 14], [0, 1, 2, 3, 4, 5, 6, 7, 8, 9, 10, 11, 12, 13, 14, 15], [0, 1, 2, 3, 4, 5, 6, 7, 8, 9, 10, 11, 12, 13, 14, 15, 16], [0, 1, 2, 3, 4, 5, 6, 7, 8, 9, 10, 11, 12, 13, 14, 15, 16], [0, 1, 2, 3, 4, 5, 6, 7, 8, 9, 10, 11, 12, 13, 14, 15, 16, 17, 18], [0, 1, 2, 3, 4, 5, 6, 7, 8, 9, 10, 11, 12, 13, 14, 15, 16, 17, 18, 19], [0, 1, 2, 3, 4, 5, 6, 7, 8, 9, 10, 11, 12, 13, 14, 15, 16], [0, 1, 2, 3, 4, 5, 6, 7, 8, 9, 10, 11, 12, 13, 14, 15, 16, 17, 18, 19, 20, 21], [0, 1, 2, 3, 4, 5, 6, 7, 8, 9, 10, 11, 12, 13, 14, 15, 16, 17, 18, 19, 20, 21, 22], [0, 1, 2, 3, 4, 5, 6, 7, 8, 9, 10, 11, 12, 13, 14, 15, 16, 17, 18, 19, 20, 21, 22, 23], [0, 1, 2, 3, 4, 5, 6, 7, 8, 9, 10, 11, 12, 13, 14, 15, 16, 17, 18, 19, 20, 21, 22, 23, 24], [0, 1, 2, 3, 4, 5, 6, 7, 8, 9, 10, 11, 12, 13, 14, 15, 16, 17, 18, 19, 20, 21, 22, 23, 24, 25], [0, 1, 2, 3, 4, 5, 6, 7, 8, 9, 10, 11, 12, 13, 14, 15, 16, 17, 18, 19, 20, 21, 22, 23, 24, 25, 26], [0, 1, 2, 3, 4, 5, 6, 7, 8, 9, 10, 11, 12, 13, 14, 15, 16, 17, 18, 19, 20, 21, 22, 23, 24, 25, 26, 27], [0, 1, 2, 3, 4, 5, 6, 7, 8, 9, 10, 11, 12, 13, 14, 15, 16, 17, 18, 19, 20, 21, 22, 23, 24, 25, 26, 27, 28], [0, 1, 2, 3, 4, 5, 6, 7, 8, 9, 10, 11, 12, 13, 14, 15, 16, 17, 18, 19, 20, 21, 22, 23, 24, 25, 26, 27, 28, 29], [0, 1, 2, 3, 4, 5, 6, 7, 8, 9, 10, 11, 12, 13, 14, 15, 16, 17, 18, 19, 20, 21, 22, 23, 24, 25, 26, 27, 28, 29, 30], [0, 1, 2, 3, 4, 5, 6, 7, 8, 9, 10, 11, 12, 13, 14, 15, 16, 17, 18, 19, 20, 21, 22, 23, 24, 25, 26, 27, 28, 29, 30, 31], [0, 1, 2, 3, 4, 5, 6, 7, 8, 9, 10, 11, 12, 13, 14, 15, 16, 17, 18, 19, 20, 21, 22, 23, 24, 25, 26, 27, 28, 29, 30, 31, 32], [0, 1, 2, 3, 4, 5, 6, 7, 8, 9, 10, 11, 12, 13, 14, 15, 16, 17, 18, 19, 20, 21, 22, 23, 24, 25, 26, 27, 28, 29, 30, 31, 32, 33], [0, 1, 2, 3, 4, 5, 6, 7, 8, 9, 10, 11, 12, 13, 14, 15, 16, 17, 18, 19, 20, 21, 22, 23, 24, 25, 26, 27, 28, 29, 30, 31, 32, 33, 34], [0, 1, 2, 3, 4, 5, 6, 7, 8, 9, 10, 11, 12, 13, 14, 15, 16, 17, 18, 19, 20, 21, 22, 23, 24, 25, 26, 27, 28, 29, 30, 31, 32, 33, 34, 35], [0, 1, 2, 3, 4, 5, 6, 7, 8, 9, 10, 11, 12, 13, 14, 15, 16, 17, 18, 19, 20, 21, 22, 23, 24, 25, 26, 27, 28, 29, 30, 31, 32, 33, 34, 35, 36], [0, 1, 2, 3, 4, 5, 6, 7, 8, 9, 10, 11, 12, 13, 14, 15, 16, 17, 18, 19, 20, 21, 22, 23, 24, 25, 26, 27, 28, 29, 30, 31, 32, 33, 34, 35, 36, 37], [0, 1, 2, 3, 4, 5, 6, 7, 8, 9, 10, 11, 12, 13, 14, 15, 16, 17, 18, 19, 20, 21, 22, 23, 24, 25, 26, 27, 28, 29, 30, 31, 32, 33, 34, 35, 36, 37, 38], [0, 1, 2, 3, 4, 5, 6, 7, 8, 9, 10, 11, 12, 13, 14, 15, 16, 17, 18, 19, 20, 21, 22, 23, 24, 25, 26, 27, 28, 29, 30, 31, 32, 33, 34, 35, 36, 37, 38, 39], [0, 1, 2, 3, 4, 5, 6, 7, 8, 9, 10, 11, 12, 13, 14, 15, 16, 17, 18, 19, 20, 21, 22, 23, 24, 25, 26, 27, 28, 29, 30, 31, 32, 33, 34, 35, 36, 37, 38, 39, 40], [0, 1, 2, 3, 4, 5, 6, 7, 8, 9, 10, 11, 12, 13, 14, 15, 16, 17, 18, 19, 20, 21, 22, 23, 24, 25, 26, 27, 28, 29, 30, 31, 32, 33, 34, 35, 36, 37, 38, 39, 40, 41], [0, 1, 2, 3, 4, 5, 6, 7, 8, 9, 10, 11, 12, 13, 14, 15, 16, 17, 18, 19, 20, 21, 22, 23, 24, 25, 26, 27, 28, 29, 30, 31, 32, 33, 34, 35, 36, 37, 38, 39, 40, 41, 42], [0, 1, 2, 3, 4, 5, 6, 7, 8, 9, 10, 11, 12, 13, 14, 15, 16, 17, 18, 19, 20, 21, 22, 23, 24, 25, 26, 27, 28, 29, 30, 31, 32, 33, 34, 35, 36, 37, 38, 39, 40, 41, 42, 43], [0, 1, 2, 3, 4, 5, 6, 7, 8, 9, 10, 11, 12, 13, 14, 15, 16, 17, 18, 19, 20, 21, 22, 23, 24, 25, 26, 27, 28, 29, 30, 31, 32, 33, 34, 35, 36, 37, 38, 39, 40, 41, 42, 43], [0, 1, 2, 3, 4, 5, 6, 7, 8, 9, 10, 11, 12, 13, 14, 15, 16, 17, 18, 19, 20, 21, 22, 23, 24, 25, 26, 27, 28, 29, 30, 31, 32, 33, 34, 35, 36, 37, 38, 39, 40, 41, 42, 43, 44, 45], [0, 1, 2, 3, 4, 5, 6, 7, 8, 9, 10, 11, 12, 13, 14, 15, 16, 17, 18, 19, 20, 21, 22, 23, 24, 25, 26, 27, 28, 29, 30, 31, 32, 33, 34, 35, 36, 37, 38, 39, 40, 41, 42, 43, 44, 45, 46], [0, 1, 2, 3, 4, 5, 6, 7, 8, 9, 10, 11, 12, 13, 14, 15, 16, 17, 18, 19, 20, 21, 22, 23, 24, 25, 26, 27, 28, 29, 30, 31, 32, 33, 34, 35, 36, 37, 38, 39, 40, 41, 42, 43, 44, 45, 46, 47], [0, 1, 2, 3, 4, 5, 6, 7, 8, 9, 10, 11, 12, 13, 14, 15, 16, 17, 18, 19, 20, 21, 22, 23, 24, 25, 26, 27, 28, 29, 30, 31, 32, 33, 34, 35, 36, 37, 38, 39, 40, 41, 42, 43, 44, 45, 46, 47, 48], [0, 1, 2, 3, 4, 5, 6, 7, 8, 9, 10, 11, 12, 13, 14, 15, 16, 17, 18, 19, 20, 21, 22, 23, 24, 25, 26, 27, 28, 29, 30, 31, 32, 33, 34, 35, 36, 37, 38, 39, 40, 41, 42, 43, 44, 45, 46, 47, 48, 49], [0, 1, 2, 3, 4, 5, 6, 7, 8, 9, 10, 11, 12, 13, 14, 15, 16, 17, 18, 19, 20, 21, 22, 23, 24, 25, 26, 27, 28, 29, 30, 31, 32, 33, 34, 35, 36, 37, 38, 39, 40, 41, 42, 43, 44, 45, 46, 47, 48, 49, 50], [0, 1, 2, 3, 4, 5, 6, 7, 8, 9, 10, 11, 12, 13, 14, 15, 16, 17, 18, 19, 20, 21, 22, 23, 24, 25, 26, 27, 28, 29, 30, 31, 32, 33, 34, 35, 36, 37, 38, 39, 40, 41, 42, 43, 44, 45, 46, 47, 48, 49, 50, 51]] (by kernel_rfl) (by kernel_rfl) (by kernel_rfl) (by kernel_rfl) [3, 6, 7, 9, 10, 11, 82, 83, 84, 170] [2, 3] (by kernel_rfl)
                                              ⟨⟨⟨⟨⟨⟨⟨⟨⟨⟨⟨⟨⟨⟨⟨⟨⟨⟨⟨⟨⟨⟨⟨⟨⟨⟨⟨⟨⟨⟨⟨⟨⟨⟨⟨⟨⟨⟨⟨⟨⟨⟨⟨⟨⟨⟨⟨⟨⟨⟨⟨⟨⟨trivial,
                                              tri_quietW (fun β => []) [] [] (fun β => []) (by kernel_rfl) (fun β extra => by kernel_rfl) (by kernel_rfl) (fun β => trivial)⟩,
                                              tri_quietW (fun β => [(119, .bool false)]) [] [] (fun β => [(.bool false, .bool false)]) (by kernel_rfl) (fun β extra => by kernel_rfl) (by kernel_rfl) (fun β => ⟨rfl, trivial⟩)⟩,
                                              tri_quietW (fun β => []) [] [] (fun β => []) (by kernel_rfl) (fun β extra => by kernel_rfl) (by kernel_rfl) (fun β => trivial)⟩,
                                              tri_quietW (fun β => []) [] [] (fun β => []) (by kernel_rfl) (fun β extra => by kernel_rfl) (by kernel_rfl) (fun β => trivial)⟩,
                                              tri_quietW (fun β => [(122, .bool false)]) [] [] (fun β => [(.bool false, .bool false)]) (by kernel_rfl) (fun β extra => by kernel_rfl) (by kernel_rfl) (fun β => ⟨rfl, trivial⟩)⟩,
                                              tri_quietW (fun β => []) [] [] (fun β => []) (by kernel_rfl) (fun β extra => by kernel_rfl) (by kernel_rfl) (fun β => trivial)⟩,
                                              tri_quietW (fun β => []) [] [] (fun β => []) (by kernel_rfl) (fun β extra => by kernel_rfl) (by kernel_rfl) (fun β => trivial)⟩,
                                              tri_quietW (fun β => []) [] [] (fun β => []) (by kernel_rfl) (fun β extra => by kernel_rfl) (by kernel_rfl) (fun β => trivial)⟩,
                                              tri_quietW (fun β => [(126, .bool false)]) [] [] (fun β => [(.bool false, .bool false)]) (by kernel_rfl) (fun β extra => by kernel_rfl) (by kernel_rfl) (fun β => ⟨rfl, trivial⟩)⟩,
                                              tri_quietW (fun β => []) [] [] (fun β => []) (by kernel_rfl) (fun β extra => by kernel_rfl) (by kernel_rfl) (fun β => trivial)⟩,
                                              tri_quietW (fun β => []) [] [] (fun β => []) (by kernel_rfl) (fun β extra => by kernel_rfl) (by kernel_rfl) (fun β => trivial)⟩,
                                              tri_quietW (fun β => []) [] [] (fun β => []) (by kernel_rfl) (fun β extra => by kernel_rfl) (by kernel_rfl) (fun β => trivial)⟩,
                                              tri_quietW (fun β => []) [0] [0] (fun β => [(pA b3, pA b3)]) (by kernel_rfl) (fun β extra => by kernel_rfl) (by kernel_rfl) (fun β => ⟨rfl, trivial⟩)⟩,
                                              tri_callVW (fun β => .bool true) (fun β => by kernel_rfl) 25 (fun β => #[iV (elI (lnT T (p.n.N + 1)) j), .agg #[iV (p.n.out b j).1, iV (p.n.out b j).2]]) (by kernel_rfl) (fun β extra => by kernel_rfl) (fun β => by kernel_rfl) (fun β w1 k1 h1 => (by have h := inside_any (elI (lnT T (p.n.N + 1)) j) (p.n.out b j) w1; rw [hd5] at h; exact h))⟩,
                                              tri_quietW (fun β => [(132, .bool false)]) [] [] (fun β => [(.bool false, .bool false)]) (by kernel_rfl) (fun β extra => by kernel_rfl) (by kernel_rfl) (fun β => ⟨rfl, trivial⟩)⟩,
                                              tri_quietW (fun β => []) [] [] (fun β => []) (by kernel_rfl) (fun β extra => by kernel_rfl) (by kernel_rfl) (fun β => trivial)⟩,
                                              tri_quietW (fun β => []) [] [] (fun β => []) (by kernel_rfl) (fun β extra => by kernel_rfl) (by kernel_rfl) (fun β => trivial)⟩,
                                              tri_quietW (fun β => []) [] [] (fun β => []) (by kernel_rfl) (fun β extra => by kernel_rfl) (by kernel_rfl) (fun β => trivial)⟩,
                                              tri_quietW (fun β => []) [] [] (fun β => []) (by kernel_rfl) (fun β extra => by kernel_rfl) (by kernel_rfl) (fun β => trivial)⟩,
                                              tri_quietW (fun β => [(137, iV qn)]) [] [] (fun β => [(iV (IntKind.i64.wrap (elI (lnT T (p.n.N + 1)) j * gv)), iV qn)]) (by kernel_rfl) (fun β extra => by kernel_rfl) (by kernel_rfl) (fun β => ⟨((wr (by omega) (by omega)).trans (io hqn)), trivial⟩)⟩,
                                              tri_callVW (fun β => iV (dwn qn)) (fun β => by kernel_rfl) 26 (fun β => #[iV qn]) (by kernel_rfl) (fun β extra => by kernel_rfl) (fun β => by kernel_rfl) (fun β w1 k1 h1 => ldown_any qn (by omega) (by omega) w1)⟩,
                                              tri_quietW (fun β => []) [0] [0] (fun β => [(pA b4, pA b4)]) (by kernel_rfl) (fun β extra => by kernel_rfl) (by kernel_rfl) (fun β => ⟨rfl, trivial⟩)⟩,
                                              tri_callVW (fun β => .bool true) (fun β => by kernel_rfl) 25 (fun β => #[iV (dwn qn), .agg #[iV ((lonS (p.n.out b j) (elB p.bs b).2.2.2.2).1), iV ((lonS (p.n.out b j) (elB p.bs b).2.2.2.2).2)]]) (by kernel_rfl) (fun β extra => by kernel_rfl) (fun β => by kernel_rfl) (fun β w1 k1 h1 => (by have h := inside_any (dwn qn) (lonS (p.n.out b j) (elB p.bs b).2.2.2.2) w1; rw [hd6] at h; exact h))⟩,
                                              tri_quietW (fun β => [(141, .bool false)]) [] [] (fun β => [(.bool false, .bool false)]) (by kernel_rfl) (fun β extra => by kernel_rfl) (by kernel_rfl) (fun β => ⟨rfl, trivial⟩)⟩,
                                              tri_quietW (fun β => []) [] [] (fun β => []) (by kernel_rfl) (fun β extra => by kernel_rfl) (by kernel_rfl) (fun β => trivial)⟩,
                                              tri_quietW (fun β => []) [] [] (fun β => []) (by kernel_rfl) (fun β extra => by kernel_rfl) (by kernel_rfl) (fun β => trivial)⟩,
                                              tri_quietW (fun β => []) [] [] (fun β => []) (by kernel_rfl) (fun β extra => by kernel_rfl) (by kernel_rfl) (fun β => trivial)⟩,
                                              tri_quietW (fun β => [(145, .bool true)]) [] [] (fun β => [(.bool (jv == 2), .bool true)]) (by kernel_rfl) (fun β extra => by kernel_rfl) (by kernel_rfl) (fun β => ⟨(bo hd7), trivial⟩)⟩,
                                              tri_quietW (fun β => []) [] [] (fun β => []) (by kernel_rfl) (fun β extra => by kernel_rfl) (by kernel_rfl) (fun β => trivial)⟩,
                                              tri_quietW (fun β => []) [] [] (fun β => []) (by kernel_rfl) (fun β extra => by kernel_rfl) (by kernel_rfl) (fun β => trivial)⟩,
                                              tri_quietW (fun β => [(148, .bool false)]) [] [] (fun β => [(.bool false, .bool false)]) (by kernel_rfl) (fun β extra => by kernel_rfl) (by kernel_rfl) (fun β => ⟨rfl, trivial⟩)⟩,
                                              tri_quietW (fun β => []) [] [] (fun β => []) (by kernel_rfl) (fun β extra => by kernel_rfl) (by kernel_rfl) (fun β => trivial)⟩,
                                              tri_quietW (fun β => []) [] [] (fun β => []) (by kernel_rfl) (fun β extra => by kernel_rfl) (by kernel_rfl) (fun β => trivial)⟩,
                                              tri_quietW (fun β => []) [] [] (fun β => []) (by kernel_rfl) (fun β extra => by kernel_rfl) (by kernel_rfl) (fun β => trivial)⟩,
                                              tri_quietW (fun β => []) [] [] (fun β => []) (by kernel_rfl) (fun β extra => by kernel_rfl) (by kernel_rfl) (fun β => trivial)⟩,
                                              tri_quietW (fun β => [(153, .bool false)]) [] [] (fun β => [(.bool (jv == 0), .bool false)]) (by kernel_rfl) (fun β extra => by kernel_rfl) (by kernel_rfl) (fun β => ⟨(bo hd8), trivial⟩)⟩,
                                              tri_quietW (fun β => []) [] [] (fun β => []) (by kernel_rfl) (fun β extra => by kernel_rfl) (by kernel_rfl) (fun β => trivial)⟩,
                                              tri_quietW (fun β => []) [] [] (fun β => []) (by kernel_rfl) (fun β extra => by kernel_rfl) (by kernel_rfl) (fun β => trivial)⟩,
                                              tri_quietW (fun β => []) [] [] (fun β => []) (by kernel_rfl) (fun β extra => by kernel_rfl) (by kernel_rfl) (fun β => trivial)⟩,
                                              tri_quietW (fun β => []) [] [] (fun β => []) (by kernel_rfl) (fun β extra => by kernel_rfl) (by kernel_rfl) (fun β => trivial)⟩,
                                              tri_quietW (fun β => []) [] [] (fun β => []) (by kernel_rfl) (fun β extra => by kernel_rfl) (by kernel_rfl) (fun β => trivial)⟩,
                                              tri_quietW (fun β => []) [] [] (fun β => []) (by kernel_rfl) (fun β extra => by kernel_rfl) (by kernel_rfl) (fun β => trivial)⟩,
                                              tri_quietW (fun β => [(160, .bool false)]) [] [] (fun β => [(.bool (fe == 0), .bool false)]) (by kernel_rfl) (fun β extra => by kernel_rfl) (by kernel_rfl) (fun β => ⟨(bo hd9), trivial⟩)⟩,
                                              tri_quietW (fun β => []) [] [] (fun β => []) (by kernel_rfl) (fun β extra => by kernel_rfl) (by kernel_rfl) (fun β => trivial)⟩,
                                              tri_quietW (fun β => []) [] [] (fun β => []) (by kernel_rfl) (fun β extra => by kernel_rfl) (by kernel_rfl) (fun β => trivial)⟩,
                                              tri_quietW (fun β => []) [] [] (fun β => []) (by kernel_rfl) (fun β extra => by kernel_rfl) (by kernel_rfl) (fun β => trivial)⟩,
                                              tri_quietW (fun β => []) [] [] (fun β => []) (by kernel_rfl) (fun β extra => by kernel_rfl) (by kernel_rfl) (fun β => trivial)⟩,
                                              tri_quietW (fun β => []) [] [] (fun β => []) (by kernel_rfl) (fun β extra => by kernel_rfl) (by kernel_rfl) (fun β => trivial)⟩,
                                              tri_quietW (fun β => []) [] [] (fun β => []) (by kernel_rfl) (fun β extra => by kernel_rfl) (by kernel_rfl) (fun β => trivial)⟩,
                                              tri_quietW (fun β => []) [] [] (fun β => []) (by kernel_rfl) (fun β extra => by kernel_rfl) (by kernel_rfl) (fun β => trivial)⟩,
                                              tri_quietW (fun β => []) [] [] (fun β => []) (by kernel_rfl) (fun β extra => by kernel_rfl) (by kernel_rfl) (fun β => trivial)⟩,
                                              tri_quietW (fun β => []) [] [] (fun β => []) (by kernel_rfl) (fun β extra => by kernel_rfl) (by kernel_rfl) (fun β => trivial)⟩,
                                              tri_quietW (fun β => []) [] [] (fun β => []) (by kernel_rfl) (fun β extra => by kernel_rfl) (by kernel_rfl) (fun β => trivial)⟩
                                              (fun β => ⟨[(3, pA b1), (6, .bool false), (7, iV (b : Int)), (9, iV gv), (10, iV fv), (11, iV fe), (82, sV g2 (p.n.N + 1) cap2), (83, iV ((p.n.N + 1) : Int)), (84, iV (j : Int)), (170, .bool false)], [(g2, cO ((lnT T (p.n.N + 1)).flatMap inR ++ sp2) 3), (b1, aO #[.slice p.ba p.bs.length p.bc, iV p.near, iV p.last, .slice p.ta p.ts.length p.tc] 33)]⟩) (fun β => by kernel_rfl) (fun β5 => ?_)
                      refine run_auto [(171, iV ((j + 1 : Nat) : Int))] 7 [false] [] [3, 6, 7, 9, 10, 11, 82, 83, 84] [0, 1] (st' := ⟨[(3, pA b1), (6, .bool false), (7, iV (b : Int)), (9, iV gv), (10, iV fv), (11, iV fe), (82, sV g2 (p.n.N + 1) cap2), (83, iV ((p.n.N + 1) : Int)), (84, iV ((j + 1 : Nat) : Int))], [(g2, cO ((lnT T (p.n.N + 1)).flatMap inR ++ sp2) 3), (b1, aO #[.slice p.ba p.bs.length p.bc, iV p.near, iV p.last, .slice p.ta p.ts.length p.tc] 33)]⟩) (acc := [(iV (IntKind.i64.wrap ((j : Int) + 1)), iV ((j + 1 : Nat) : Int)), (.bool false, .bool false)]) (by kernel_rfl) (by kernel_rfl) ⟨(wr (by omega) (by omega)), rfl, trivial⟩ ?_
                      exact run_round (by kernel_rfl) (hJ0 (j + 1) (by omega) (by omega))
                    | true =>
                      have hp9 : fe = 0 := by simpa using hd9
                      cases hd10 : (decide (fv ≤ (j : Int))) with
                      | false =>
                        have hp10 := of_decide_eq_false hd10
                        refine drawW 53 [{ val := fun _ => iV 0, slots := [17] },
                                                  { val := fun _ => .bool false, slots := [118] },
                                                  { val := fun _ => .bool false, slots := [119] },
                                                  { val := fun _ => iV 0, slots := [19, 120] },
                                                  { val := fun _ => .bool false, slots := [120, 121] },
                                                  { val := fun _ => .bool false, slots := [120, 122] },
                                                  { val := fun _ => .bool false, slots := [123] },
                                                  { val := fun _ => iV 0, slots := [21, 124] },
                                                  { val := fun _ => .bool false, slots := [124, 125] },
                                                  { val := fun _ => .bool false, slots := [124, 126] },
                                                  { val := fun _ => .bool false, slots := [127] },
                                                  { val := fun _ => iV (elI (lnT T (p.n.N + 1)) j), slots := [15, 128] },
                                                  { val := fun _ => .agg #[iV (p.n.out b j).1, iV (p.n.out b j).2], slots := [16, 128], reads := [1] },
                                                  { val := fun _ => .bool true, slots := [128, 129, 130] },
                                                  { val := fun _ => .bool false, slots := [128, 131] },
                                                  { val := fun _ => .bool false, slots := [128, 132] },
                                                  { val := fun _ => .bool false, slots := [133] },
                                                  { val := fun _ => iV (elI (lnT T (p.n.N + 1)) j), slots := [15, 134] },
                                                  { val := fun _ => iV gv, slots := [9, 134] },
                                                  { val := fun _ => iV qn, slots := [134, 135, 136] },
                                                  { val := fun _ => iV (dwn qn), slots := [134, 137] },
                                                  { val := fun _ => .agg #[iV ((lonS (p.n.out b j) (elB p.bs b).2.2.2.2).1), iV ((lonS (p.n.out b j) (elB p.bs b).2.2.2.2).2)], slots := [18, 134], reads := [0] },
                                                  { val := fun _ => .bool true, slots := [134, 138, 139] },
                                                  { val := fun _ => .bool false, slots := [134, 140] },
                                                  { val := fun _ => .bool false, slots := [134, 141] },
                                                  { val := fun _ => .bool false, slots := [142] },
                                                  { val := fun _ => iV jv, slots := [20, 143] },
                                                  { val := fun _ => .bool true, slots := [143, 144] },
                                                  { val := fun _ => .bool true, slots := [143, 145] },
                                                  { val := fun _ => .bool true, slots := [22, 146] },
                                                  { val := fun _ => .bool false, slots := [146, 147] },
                                                  { val := fun _ => .bool false, slots := [143, 146, 148] },
                                                  { val := fun _ => .bool false, slots := [143, 149] },
                                                  { val := fun _ => .bool false, slots := [150] },
                                                  { val := fun _ => iV jv, slots := [20, 151] },
                                                  { val := fun _ => .bool false, slots := [151, 152] },
                                                  { val := fun _ => .bool false, slots := [151, 153] },
                                                  { slots := [154] },
                                                  { val := fun _ => .bool false, slots := [151, 154, 155] },
                                                  { val := fun _ => .bool false, slots := [151, 156] },
                                                  { val := fun _ => .bool false, slots := [157] },
                                                  { val := fun _ => iV fe, slots := [11, 158] },
                                                  { val := fun _ => .bool true, slots := [158, 159] },
                                                  { val := fun _ => .bool true, slots := [158, 160] },
                                                  { val := fun _ => iV (j : Int), slots := [14, 161] },
                                                  { val := fun _ => iV fv, slots := [10, 161] },
                                                  { val := fun _ => .bool false, slots := [161, 162, 163] },
                                                  { val := fun _ => .bool false, slots := [158, 161, 164] },
                                                  { val := fun _ => .bool false, slots := [158, 165] },
                                                  { slots := [166] },
                                                  { slots := [166] },
                                                  { val := fun _ => .bool false, slots := [158, 166, 168] },
                                                  { val := fun _ => .bool false, slots := [158, 169] }] [[], [0], [0, 1], [0, 1, 2], [0, 1, 2, 3], [0, 1, 2, 3, 4], [0, 1, 2, 3, 4, 5], [0, 1, 2, 3, 4, 5, 6], [0, 1, 2, 3, 4, 5, 6, 7], [0, 1, 2, 3, 4, 5, 6, 7, 8], [0, 1, 2, 3, 4, 5, 6, 7, 8, 9], [0, 1, 2, 3, 4, 5, 6, 7, 8, 9, 10], [0, 1, 2, 3, 4, 5, 6, 7, 8, 9, 10], [0, 1, 2, 3, 4, 5, 6, 7, 8, 9, 10, 11, 12], [0, 1, 2, 3, 4, 5, 6, 7, 8, 9, 10, 11, 12, 13], [0, 1, 2, 3, 4, 5, 6, 7, 8, 9, 10, 11, 12, 13, 14], [0, 1, 2, 3, 4, 5, 6, 7, 8, 9, 10, 11, 12, 13, 14, 15], [0, 1, 2, 3, 4, 5, 6, 7, 8, 9, 10, 11, 12, 13, 14, 15, 16], [0, 1, 2, 3, 4, 5, 6, 7, 8, 9, 10, 11, 12, 13, 14, 15, 16], [0, 1, 2, 3, 4, 5, 6, 7, 8, 9, 10, 11, 12, 13, 14, 15, 16, 17, 18], [0, 1, 2, 3, 4, 5, 6, 7, 8, 9, 10, 11, 12, 13, 14, 15, 16, 17, 18, 19], [0, 1, 2, 3, 4, 5, 6, 7, 8, 9, 10, 11, 12, 13, 14, 15, 16], [0, 1, 2, 3, 4, 5, 6, 7, 8, 9, 10, 11, 12, 13, 14, 15, 16, 17, 18, 19, 20, 21], [0, 1, 2, 3, 4, 5, 6, 7, 8, 9, 10, 11, 12, 13, 14, 15, 16, 17, 18, 19, 20, 21, 22], [0, 1, 2, 3, 4, 5, 6, 7, 8, 9, 10, 11, 12, 13, 14, 15, 16, 17, 18, 19, 20, 21, 22, 23], [0, 1, 2, 3, 4, 5, 6, 7, 8, 9, 10, 11, 12, 13, 14, 15, 16, 17, 18, 19, 20, 21, 22, 23, 24], [0, 1, 2, 3, 4, 5, 6, 7, 8, 9, 10, 11, 12, 13, 14, 15, 16, 17, 18, 19, 20, 21, 22, 23, 24, 25], [0, 1, 2, 3, 4, 5, 6, 7, 8, 9, 10, 11, 12, 13, 14, 15, 16, 17, 18, 19, 20, 21, 22, 23, 24, 25, 26], [0, 1, 2, 3, 4, 5, 6, 7, 8, 9, 10, 11, 12, 13, 14, 15, 16, 17, 18, 19, 20, 21, 22, 23, 24, 25, 26, 27], [0, 1, 2, 3, 4, 5, 6, 7, 8, 9, 10, 11, 12, 13, 14, 15, 16, 17, 18, 19, 20, 21, 22, 23, 24, 25, 26, 27, 28], [0, 1, 2, 3, 4, 5, 6, 7, 8, 9, 10, 11, 12, 13, 14, 15, 16, 17, 18, 19, 20, 21, 22, 23, 24, 25, 26, 27, 28, 29], [0, 1, 2, 3, 4, 5, 6, 7, 8, 9, 10, 11, 12, 13, 14, 15, 16, 17, 18, 19, 20, 21, 22, 23, 24, 25, 26, 27, 28, 29, 30], [0, 1, 2, 3, 4, 5, 6, 7, 8, 9, 10, 11, 12, 13, 14, 15, 16, 17, 18, 19, 20, 21, 22, 23, 24, 25, 26, 27, 28, 29, 30, 31], [0, 1, 2, 3, 4, 5, 6, 7, 8, 9, 10, 11, 12, 13, 14, 15, 16, 17, 18, 19, 20, 21, 22, 23, 24, 25, 26, 27, 28, 29, 30, 31, 32], [0, 1, 2, 3, 4, 5, 6, 7, 8, 9, 10, 11, 12, 13, 14, 15, 16, 17, 18, 19, 20, 21, 22, 23, 24, 25, 26, 27, 28, 29, 30, 31, 32, 33], [0, 1, 2, 3, 4, 5, 6, 7, 8, 9, 10, 11, 12, 13, 14, 15, 16, 17, 18, 19, 20, 21, 22, 23, 24, 25, 26, 27, 28, 29, 30, 31, 32, 33, 34], [0, 1, 2, 3, 4, 5, 6, 7, 8, 9, 10, 11, 12, 13, 14, 15, 16, 17, 18, 19, 20, 21, 22, 23, 24, 25, 26, 27, 28, 29, 30, 31, 32, 33, 34, 35], [0, 1, 2, 3, 4, 5, 6, 7, 8, 9, 10, 11, 12, 13, 14, 15, 16, 17, 18, 19, 20, 21, 22, 23, 24, 25, 26, 27, 28, 29, 30, 31, 32, 33, 34, 35, 36], [0, 1, 2, 3, 4, 5, 6, 7, 8, 9, 10, 11, 12, 13, 14, 15, 16, 17, 18, 19, 20, 21, 22, 23, 24, 25, 26, 27, 28, 29, 30, 31, 32, 33, 34, 35, 36, 37], [0, 1, 2, 3, 4, 5, 6, 7, 8, 9, 10, 11, 12, 13, 14, 15, 16, 17, 18, 19, 20, 21, 22, 23, 24, 25, 26, 27, 28, 29, 30, 31, 32, 33, 34, 35, 36, 37, 38], [0, 1, 2, 3, 4, 5, 6, 7, 8, 9, 10, 11, 12, 13, 14, 15, 16, 17, 18, 19, 20, 21, 22, 23, 24, 25, 26, 27, 28, 29, 30, 31, 32, 33, 34, 35, 36, 37, 38, 39], [0, 1, 2, 3, 4, 5, 6, 7, 8, 9, 10, 11, 12, 13, 14, 15, 16, 17, 18, 19, 20, 21, 22, 23, 24, 25, 26, 27, 28, 29, 30, 31, 32, 33, 34, 35, 36, 37, 38, 39, 40], [0, 1, 2, 3, 4, 5, 6, 7, 8, 9, 10, 11, 12, 13, 14, 15, 16, 17, 18, 19, 20, 21, 22, 23, 24, 25, 26, 27, 28, 29, 30, 31, 32, 33, 34, 35, 36, 37, 38, 39, 40, 41], [0, 1, 2, 3, 4, 5, 6, 7, 8, 9, 10, 11, 12, 13, 14, 15, 16, 17, 18, 19, 20, 21, 22, 23, 24, 25, 26, 27, 28, 29, 30, 31, 32, 33, 34, 35, 36, 37, 38, 39, 40, 41, 42], [0, 1, 2, 3, 4, 5, 6, 7, 8, 9, 10, 11, 12, 13, 14, 15, 16, 17, 18, 19, 20, 21, 22, 23, 24, 25, 26, 27, 28, 29, 30, 31, 32, 33, 34, 35, 36, 37, 38, 39, 40, 41, 42, 43], [0, 1, 2, 3, 4, 5, 6, 7, 8, 9, 10, 11, 12, 13, 14, 15, 16, 17, 18, 19, 20, 21, 22, 23, 24, 25, 26, 27, 28, 29, 30, 31, 32, 33, 34, 35, 36, 37, 38, 39, 40, 41, 42, 43], [0, 1, 2, 3, 4, 5, 6, 7, 8, 9, 10, 11, 12, 13, 14, 15, 16, 17, 18, 19, 20, 21, 22, 23, 24, 25, 26, 27, 28, 29, 30, 31, 32, 33, 34, 35, 36, 37, 38, 39, 40, 41, 42, 43, 44, 45], [0, 1, 2, 3, 4, 5, 6, 7, 8, 9, 10, 11, 12, 13, 14, 15, 16, 17, 18, 19, 20, 21, 22, 23, 24, 25, 26, 27, 28, 29, 30, 31, 32, 33, 34, 35, 36, 37, 38, 39, 40, 41, 42, 43, 44, 45, 46], [0, 1, 2, 3, 4, 5, 6, 7, 8, 9, 10, 11, 12, 13, 14, 15, 16, 17, 18, 19, 20, 21, 22, 23, 24, 25, 26, 27, 28, 29, 30, 31, 32, 33, 34, 35, 36, 37, 38, 39, 40, 41, 42, 43, 44, 45, 46, 47], [0, 1, 2, 3, 4, 5, 6, 7, 8, 9, 10, 11, 12, 13, 14, 15, 16, 17, 18, 19, 20, 21, 22, 23, 24, 25, 26, 27, 28, 29, 30, 31, 32, 33, 34, 35, 36, 37, 38, 39, 40, 41, 42, 43, 44, 45, 46, 47, 48], [0, 1, 2, 3, 4, 5, 6, 7, 8, 9, 10, 11, 12, 13, 14, 15, 16, 17, 18, 19, 20, 21, 22, 23, 24, 25, 26, 27, 28, 29, 30, 31, 32, 33, 34, 35, 36, 37, 38, 39, 40, 41, 42, 43, 44, 45, 46, 47, 48, 49], [0, 1, 2, 3, 4, 5, 6, 7, 8, 9, 10, 11, 12, 13, 14, 15, 16, 17, 18, 19, 20, 21, 22, 23, 24, 25, 26, 27, 28, 29, 30, 31, 32, 33, 34, 35, 36, 37, 38, 39, 40, 41, 42, 43, 44, 45, 46, 47, 48, 49, 50], [0, 1, 2, 3, 4, 5, 6, 7, 8, 9, 10, 11, 12, 13, 14, 15, 16, 17, 18, 19, 20, 21, 22, 23, 24, 25, 26, 27, 28, 29, 30, 31, 32, 33, 34, 35, 36, 37, 38, 39, 40, 41, 42, 43, 44, 45, 46, 47, 48, 49, 50, 51]] (by kernel_rfl) (by kernel_rfl) (by kernel_rfl) (by kernel_rfl) [3, 6, 7, 9, 10, 11, 82, 83, 84, 170] [2, 3] (by kernel_rfl)
                                                  ⟨⟨⟨⟨⟨⟨⟨⟨⟨⟨⟨⟨⟨⟨⟨⟨⟨⟨⟨⟨⟨⟨⟨⟨⟨⟨⟨⟨⟨⟨⟨⟨⟨⟨⟨⟨⟨⟨⟨⟨⟨⟨⟨⟨⟨⟨⟨⟨⟨⟨⟨⟨⟨trivial,
                                                  tri_quietW (fun β => []) [] [] (fun β => []) (by kernel_rfl) (fun β extra => by kernel_rfl) (by kernel_rfl) (fun β => trivial)⟩,
                                                  tri_quietW (fun β => [(119, .bool false)]) [] [] (fun β => [(.bool false, .bool false)]) (by kernel_rfl) (fun β extra => by kernel_rfl) (by kernel_rfl) (fun β => ⟨rfl, trivial⟩)⟩,
                                                  tri_quietW (fun β => []) [] [] (fun β => []) (by kernel_rfl) (fun β extra => by kernel_rfl) (by kernel_rfl) (fun β => trivial)⟩,
                                                  tri_quietW (fun β => []) [] [] (fun β => []) (by kernel_rfl) (fun β extra => by kernel_rfl) (by kernel_rfl) (fun β => trivial)⟩,
                                                  tri_quietW (fun β => [(122, .bool false)]) [] [] (fun β => [(.bool false, .bool false)]) (by kernel_rfl) (fun β extra => by kernel_rfl) (by kernel_rfl) (fun β => ⟨rfl, trivial⟩)⟩,
                                                  tri_quietW (fun β => []) [] [] (fun β => []) (by kernel_rfl) (fun β extra => by kernel_rfl) (by kernel_rfl) (fun β => trivial)⟩,
                                                  tri_quietW (fun β => []) [] [] (fun β => []) (by kernel_rfl) (fun β extra => by kernel_rfl) (by kernel_rfl) (fun β => trivial)⟩,
                                                  tri_quietW (fun β => []) [] [] (fun β => []) (by kernel_rfl) (fun β extra => by kernel_rfl) (by kernel_rfl) (fun β => trivial)⟩,
                                                  tri_quietW (fun β => [(126, .bool false)]) [] [] (fun β => [(.bool false, .bool false)]) (by kernel_rfl) (fun β extra => by kernel_rfl) (by kernel_rfl) (fun β => ⟨rfl, trivial⟩)⟩,
                                                  tri_quietW (fun β => []) [] [] (fun β => []) (by kernel_rfl) (fun β extra => by kernel_rfl) (by kernel_rfl) (fun β => trivial)⟩,
                                                  tri_quietW (fun β => []) [] [] (fun β => []) (by kernel_rfl) (fun β extra => by kernel_rfl) (by kernel_rfl) (fun β => trivial)⟩,
                                                  tri_quietW (fun β => []) [] [] (fun β => []) (by kernel_rfl) (fun β extra => by kernel_rfl) (by kernel_rfl) (fun β => trivial)⟩,
                                                  tri_quietW (fun β => []) [0] [0] (fun β => [(pA b3, pA b3)]) (by kernel_rfl) (fun β extra => by kernel_rfl) (by kernel_rfl) (fun β => ⟨rfl, trivial⟩)⟩,
                                                  tri_callVW (fun β => .bool true) (fun β => by kernel_rfl) 25 (fun β => #[iV (elI (lnT T (p.n.N + 1)) j), .agg #[iV (p.n.out b j).1, iV (p.n.out b j).2]]) (by kernel_rfl) (fun β extra => by kernel_rfl) (fun β => by kernel_rfl) (fun β w1 k1 h1 => (by have h := inside_any (elI (lnT T (p.n.N + 1)) j) (p.n.out b j) w1; rw [hd5] at h; exact h))⟩,
                                                  tri_quietW (fun β => [(132, .bool false)]) [] [] (fun β => [(.bool false, .bool false)]) (by kernel_rfl) (fun β extra => by kernel_rfl) (by kernel_rfl) (fun β => ⟨rfl, trivial⟩)⟩,
                                                  tri_quietW (fun β => []) [] [] (fun β => []) (by kernel_rfl) (fun β extra => by kernel_rfl) (by kernel_rfl) (fun β => trivial)⟩,
                                                  tri_quietW (fun β => []) [] [] (fun β => []) (by kernel_rfl) (fun β extra => by kernel_rfl) (by kernel_rfl) (fun β => trivial)⟩,
                                                  tri_quietW (fun β => []) [] [] (fun β => []) (by kernel_rfl) (fun β extra => by kernel_rfl) (by kernel_rfl) (fun β => trivial)⟩,
                                                  tri_quietW (fun β => []) [] [] (fun β => []) (by kernel_rfl) (fun β extra => by kernel_rfl) (by kernel_rfl) (fun β => trivial)⟩,
                                                  tri_quietW (fun β => [(137, iV qn)]) [] [] (fun β => [(iV (IntKind.i64.wrap (elI (lnT T (p.n.N + 1)) j * gv)), iV qn)]) (by kernel_rfl) (fun β extra => by kernel_rfl) (by kernel_rfl) (fun β => ⟨((wr (by omega) (by omega)).trans (io hqn)), trivial⟩)⟩,
                                                  tri_callVW (fun β => iV (dwn qn)) (fun β => by kernel_rfl) 26 (fun β => #[iV qn]) (by kernel_rfl) (fun β extra => by kernel_rfl) (fun β => by kernel_rfl) (fun β w1 k1 h1 => ldown_any qn (by omega) (by omega) w1)⟩,
                                                  tri_quietW (fun β => []) [0] [0] (fun β => [(pA b4, pA b4)]) (by kernel_rfl) (fun β extra => by kernel_rfl) (by kernel_rfl) (fun β => ⟨rfl, trivial⟩)⟩,
                                                  tri_callVW (fun β => .bool true) (fun β => by kernel_rfl) 25 (fun β => #[iV (dwn qn), .agg #[iV ((lonS (p.n.out b j) (elB p.bs b).2.2.2.2).1), iV ((lonS (p.n.out b j) (elB p.bs b).2.2.2.2).2)]]) (by kernel_rfl) (fun β extra => by kernel_rfl) (fun β => by kernel_rfl) (fun β w1 k1 h1 => (by have h := inside_any (dwn qn) (lonS (p.n.out b j) (elB p.bs b).2.2.2.2) w1; rw [hd6] at h; exact h))⟩,
                                                  tri_quietW (fun β => [(141, .bool false)]) [] [] (fun β => [(.bool false, .bool false)]) (by kernel_rfl) (fun β extra => by kernel_rfl) (by kernel_rfl) (fun β => ⟨rfl, trivial⟩)⟩,
                                                  tri_quietW (fun β => []) [] [] (fun β => []) (by kernel_rfl) (fun β extra => by kernel_rfl) (by kernel_rfl) (fun β => trivial)⟩,
                                                  tri_quietW (fun β => []) [] [] (fun β => []) (by kernel_rfl) (fun β extra => by kernel_rfl) (by kernel_rfl) (fun β => trivial)⟩,
                                                  tri_quietW (fun β => []) [] [] (fun β => []) (by kernel_rfl) (fun β extra => by kernel_rfl) (by kernel_rfl) (fun β => trivial)⟩,
                                                  tri_quietW (fun β => [(145, .bool true)]) [] [] (fun β => [(.bool (jv == 2), .bool true)]) (by kernel_rfl) (fun β extra => by kernel_rfl) (by kernel_rfl) (fun β => ⟨(bo hd7), trivial⟩)⟩,
                                                  tri_quietW (fun β => []) [] [] (fun β => []) (by kernel_rfl) (fun β extra => by kernel_rfl) (by kernel_rfl) (fun β => trivial)⟩,
                                                  tri_quietW (fun β => []) [] [] (fun β => []) (by kernel_rfl) (fun β extra => by kernel_rfl) (by kernel_rfl) (fun β => trivial)⟩,
                                                  tri_quietW (fun β => [(148, .bool false)]) [] [] (fun β => [(.bool false, .bool false)]) (by kernel_rfl) (fun β extra => by kernel_rfl) (by kernel_rfl) (fun β => ⟨rfl, trivial⟩)⟩,
                                                  tri_quietW (fun β => []) [] [] (fun β => []) (by kernel_rfl) (fun β extra => by kernel_rfl) (by kernel_rfl) (fun β => trivial)⟩,
                                                  tri_quietW (fun β => []) [] [] (fun β => []) (by kernel_rfl) (fun β extra => by kernel_rfl) (by kernel_rfl) (fun β => trivial)⟩,
                                                  tri_quietW (fun β => []) [] [] (fun β => []) (by kernel_rfl) (fun β extra => by kernel_rfl) (by kernel_rfl) (fun β => trivial)⟩,
                                                  tri_quietW (fun β => []) [] [] (fun β => []) (by kernel_rfl) (fun β extra => by kernel_rfl) (by kernel_rfl) (fun β => trivial)⟩,
                                                  tri_quietW (fun β => [(153, .bool false)]) [] [] (fun β => [(.bool (jv == 0), .bool false)]) (by kernel_rfl) (fun β extra => by kernel_rfl) (by kernel_rfl) (fun β => ⟨(bo hd8), trivial⟩)⟩,
                                                  tri_quietW (fun β => []) [] [] (fun β => []) (by kernel_rfl) (fun β extra => by kernel_rfl) (by kernel_rfl) (fun β => trivial)⟩,
                                                  tri_quietW (fun β => []) [] [] (fun β => []) (by kernel_rfl) (fun β extra => by kernel_rfl) (by kernel_rfl) (fun β => trivial)⟩,
                                                  tri_quietW (fun β => []) [] [] (fun β => []) (by kernel_rfl) (fun β extra => by kernel_rfl) (by kernel_rfl) (fun β => trivial)⟩,
                                                  tri_quietW (fun β => []) [] [] (fun β => []) (by kernel_rfl) (fun β extra => by kernel_rfl) (by kernel_rfl) (fun β => trivial)⟩,
                                                  tri_quietW (fun β => []) [] [] (fun β => []) (by kernel_rfl) (fun β extra => by kernel_rfl) (by kernel_rfl) (fun β => trivial)⟩,
                                                  tri_quietW (fun β => []) [] [] (fun β => []) (by kernel_rfl) (fun β extra => by kernel_rfl) (by kernel_rfl) (fun β => trivial)⟩,
                                                  tri_quietW (fun β => [(160, .bool true)]) [] [] (fun β => [(.bool (fe == 0), .bool true)]) (by kernel_rfl) (fun β extra => by kernel_rfl) (by kernel_rfl) (fun β => ⟨(bo hd9), trivial⟩)⟩,
                                                  tri_quietW (fun β => []) [] [] (fun β => []) (by kernel_rfl) (fun β extra => by kernel_rfl) (by kernel_rfl) (fun β => trivial)⟩,
                                                  tri_quietW (fun β => []) [] [] (fun β => []) (by kernel_rfl) (fun β extra => by kernel_rfl) (by kernel_rfl) (fun β => trivial)⟩,
                                                  tri_quietW (fun β => []) [] [] (fun β => []) (by kernel_rfl) (fun β extra => by kernel_rfl) (by kernel_rfl) (fun β => trivial)⟩,
                                                  tri_quietW (fun β => [(164, .bool false)]) [] [] (fun β => [(.bool (decide (fv ≤ (j : Int))), .bool false)]) (by kernel_rfl) (fun β extra => by kernel_rfl) (by kernel_rfl) (fun β => ⟨(bo hd10), trivial⟩)⟩,
                                                  tri_quietW (fun β => []) [] [] (fun β => []) (by kernel_rfl) (fun β extra => by kernel_rfl) (by kernel_rfl) (fun β => trivial)⟩,
                                                  tri_quietW (fun β => []) [] [] (fun β => []) (by kernel_rfl) (fun β extra => by kernel_rfl) (by kernel_rfl) (fun β => trivial)⟩,
                                                  tri_quietW (fun β => []) [] [] (fun β => []) (by kernel_rfl) (fun β extra => by kernel_rfl) (by kernel_rfl) (fun β => trivial)⟩,
                                                  tri_quietW (fun β => []) [] [] (fun β => []) (by kernel_rfl) (fun β extra => by kernel_rfl) (by kernel_rfl) (fun β => trivial)⟩,
                                                  tri_quietW (fun β => []) [] [] (fun β => []) (by kernel_rfl) (fun β extra => by kernel_rfl) (by kernel_rfl) (fun β => trivial)⟩,
                                                  tri_quietW (fun β => []) [] [] (fun β => []) (by kernel_rfl) (fun β extra => by kernel_rfl) (by kernel_rfl) (fun β => trivial)⟩
                                                  (fun β => ⟨[(3, pA b1), (6, .bool false), (7, iV (b : Int)), (9, iV gv), (10, iV fv), (11, iV fe), (82, sV g2 (p.n.N + 1) cap2), (83, iV ((p.n.N + 1) : Int)), (84, iV (j : Int)), (170, .bool false)], [(g2, cO ((lnT T (p.n.N + 1)).flatMap inR ++ sp2) 3), (b1, aO #[.slice p.ba p.bs.length p.bc, iV p.near, iV p.last, .slice p.ta p.ts.length p.tc] 33)]⟩) (fun β => by kernel_rfl) (fun β5 => ?_)
                        refine run_auto [(171, iV ((j + 1 : Nat) : Int))] 7 [false] [] [3, 6, 7, 9, 10, 11, 82, 83, 84] [0, 1] (st' := ⟨[(3, pA b1), (6, .bool false), (7, iV (b : Int)), (9, iV gv), (10, iV fv), (11, iV fe), (82, sV g2 (p.n.N + 1) cap2), (83, iV ((p.n.N + 1) : Int)), (84, iV ((j + 1 : Nat) : Int))], [(g2, cO ((lnT T (p.n.N + 1)).flatMap inR ++ sp2) 3), (b1, aO #[.slice p.ba p.bs.length p.bc, iV p.near, iV p.last, .slice p.ta p.ts.length p.tc] 33)]⟩) (acc := [(iV (IntKind.i64.wrap ((j : Int) + 1)), iV ((j + 1 : Nat) : Int)), (.bool false, .bool false)]) (by kernel_rfl) (by kernel_rfl) ⟨(wr (by omega) (by omega)), rfl, trivial⟩ ?_
                        exact run_round (by kernel_rfl) (hJ0 (j + 1) (by omega) (by omega))
                      | true =>
                        have hp10 := of_decide_eq_true hd10
                        cases hd11 : (jv != 2) with
                        | false =>
                          have hp11 : jv = 2 := by simpa using hd11
                          refine drawW 53 [{ val := fun _ => iV 0, slots := [17] },
                                                      { val := fun _ => .bool false, slots := [118] },
                                                      { val := fun _ => .bool false, slots := [119] },
                                                      { val := fun _ => iV 0, slots := [19, 120] },
                                                      { val := fun _ => .bool false, slots := [120, 121] },
                                                      { val := fun _ => .bool false, slots := [120, 122] },
                                                      { val := fun _ => .bool false, slots := [123] },
                                                      { val := fun _ => iV 0, slots := [21, 124] },
                                                      { val := fun _ => .bool false, slots := [124, 125] },
                                                      { val := fun _ => .bool false, slots := [124, 126] },
                                                      { val := fun _ => .bool false, slots := [127] },
                                                      { val := fun _ => iV (elI (lnT T (p.n.N + 1)) j), slots := [15, 128] },
                                                      { val := fun _ => .agg #[iV (p.n.out b j).1, iV (p.n.out b j).2], slots := [16, 128], reads := [1] },
                                                      { val := fun _ => .bool true, slots := [128, 129, 130] },
                                                      { val := fun _ => .bool false, slots := [128, 131] },
                                                      { val := fun _ => .bool false, slots := [128, 132] },
                                                      { val := fun _ => .bool false, slots := [133] },
                                                      { val := fun _ => iV (elI (lnT T (p.n.N + 1)) j), slots := [15, 134] },
                                                      { val := fun _ => iV gv, slots := [9, 134] },
                                                      { val := fun _ => iV qn, slots := [134, 135, 136] },
                                                      { val := fun _ => iV (dwn qn), slots := [134, 137] },
                                                      { val := fun _ => .agg #[iV ((lonS (p.n.out b j) (elB p.bs b).2.2.2.2).1), iV ((lonS (p.n.out b j) (elB p.bs b).2.2.2.2).2)], slots := [18, 134], reads := [0] },
                                                      { val := fun _ => .bool true, slots := [134, 138, 139] },
                                                      { val := fun _ => .bool false, slots := [134, 140] },
                                                      { val := fun _ => .bool false, slots := [134, 141] },
                                                      { val := fun _ => .bool false, slots := [142] },
                                                      { val := fun _ => iV jv, slots := [20, 143] },
                                                      { val := fun _ => .bool true, slots := [143, 144] },
                                                      { val := fun _ => .bool true, slots := [143, 145] },
                                                      { val := fun _ => .bool true, slots := [22, 146] },
                                                      { val := fun _ => .bool false, slots := [146, 147] },
                                                      { val := fun _ => .bool false, slots := [143, 146, 148] },
                                                      { val := fun _ => .bool false, slots := [143, 149] },
                                                      { val := fun _ => .bool false, slots := [150] },
                                                      { val := fun _ => iV jv, slots := [20, 151] },
                                                      { val := fun _ => .bool false, slots := [151, 152] },
                                                      { val := fun _ => .bool false, slots := [151, 153] },
                                                      { slots := [154] },
                                                      { val := fun _ => .bool false, slots := [151, 154, 155] },
                                                      { val := fun _ => .bool false, slots := [151, 156] },
                                                      { val := fun _ => .bool false, slots := [157] },
                                                      { val := fun _ => iV fe, slots := [11, 158] },
                                                      { val := fun _ => .bool true, slots := [158, 159] },
                                                      { val := fun _ => .bool true, slots := [158, 160] },
                                                      { val := fun _ => iV (j : Int), slots := [14, 161] },
                                                      { val := fun _ => iV fv, slots := [10, 161] },
                                                      { val := fun _ => .bool true, slots := [161, 162, 163] },
                                                      { val := fun _ => .bool true, slots := [158, 161, 164] },
                                                      { val := fun _ => .bool true, slots := [158, 165] },
                                                      { val := fun _ => iV jv, slots := [20, 166] },
                                                      { val := fun _ => .bool false, slots := [166, 167] },
                                                      { val := fun _ => .bool false, slots := [158, 166, 168] },
                                                      { val := fun _ => .bool false, slots := [158, 169] }] [[], [0], [0, 1], [0, 1, 2], [0, 1, 2, 3], [0, 1, 2, 3, 4], [0, 1, 2, 3, 4, 5], [0, 1, 2, 3, 4, 5, 6], [0, 1, 2, 3, 4, 5, 6, 7], [0, 1, 2, 3, 4, 5, 6, 7, 8], [0, 1, 2, 3, 4, 5, 6, 7, 8, 9], [0, 1, 2, 3, 4, 5, 6, 7, 8, 9, 10], [0, 1, 2, 3, 4, 5, 6, 7, 8, 9, 10], [0, 1, 2, 3, 4, 5, 6, 7, 8, 9, 10, 11, 12], [0, 1, 2, 3, 4, 5, 6, 7, 8, 9, 10, 11, 12, 13], [0, 1, 2, 3, 4, 5, 6, 7, 8, 9, 10, 11, 12, 13, 14], [0, 1, 2, 3, 4, 5, 6, 7, 8, 9, 10, 11, 12, 13, 14, 15], [0, 1, 2, 3, 4, 5, 6, 7, 8, 9, 10, 11, 12, 13, 14, 15, 16], [0, 1, 2, 3, 4, 5, 6, 7, 8, 9, 10, 11, 12, 13, 14, 15, 16], [0, 1, 2, 3, 4, 5, 6, 7, 8, 9, 10, 11, 12, 13, 14, 15, 16, 17, 18], [0, 1, 2, 3, 4, 5, 6, 7, 8, 9, 10, 11, 12, 13, 14, 15, 16, 17, 18, 19], [0, 1, 2, 3, 4, 5, 6, 7, 8, 9, 10, 11, 12, 13, 14, 15, 16], [0, 1, 2, 3, 4, 5, 6, 7, 8, 9, 10, 11, 12, 13, 14, 15, 16, 17, 18, 19, 20, 21], [0, 1, 2, 3, 4, 5, 6, 7, 8, 9, 10, 11, 12, 13, 14, 15, 16, 17, 18, 19, 20, 21, 22], [0, 1, 2, 3, 4, 5, 6, 7, 8, 9, 10, 11, 12, 13, 14, 15, 16, 17, 18, 19, 20, 21, 22, 23], [0, 1, 2, 3, 4, 5, 6, 7, 8, 9, 10, 11, 12, 13, 14, 15, 16, 17, 18, 19, 20, 21, 22, 23, 24], [0, 1, 2, 3, 4, 5, 6, 7, 8, 9, 10, 11, 12, 13, 14, 15, 16, 17, 18, 19, 20, 21, 22, 23, 24, 25], [0, 1, 2, 3, 4, 5, 6, 7, 8, 9, 10, 11, 12, 13, 14, 15, 16, 17, 18, 19, 20, 21, 22, 23, 24, 25, 26], [0, 1, 2, 3, 4, 5, 6, 7, 8, 9, 10, 11, 12, 13, 14, 15, 16, 17, 18, 19, 20, 21, 22, 23, 24, 25, 26, 27], [0, 1, 2, 3, 4, 5, 6, 7, 8, 9, 10, 11, 12, 13, 14, 15, 16, 17, 18, 19, 20, 21, 22, 23, 24, 25, 26, 27, 28], [0, 1, 2, 3, 4, 5, 6, 7, 8, 9, 10, 11, 12, 13, 14, 15, 16, 17, 18, 19, 20, 21, 22, 23, 24, 25, 26, 27, 28, 29], [0, 1, 2, 3, 4, 5, 6, 7, 8, 9, 10, 11, 12, 13, 14, 15, 16, 17, 18, 19, 20, 21, 22, 23, 24, 25, 26, 27, 28, 29, 30], [0, 1, 2, 3, 4, 5, 6, 7, 8, 9, 10, 11, 12, 13, 14, 15, 16, 17, 18, 19, 20, 21, 22, 23, 24, 25, 26, 27, 28, 29, 30, 31], [0, 1, 2, 3, 4, 5, 6, 7, 8, 9, 10, 11, 12, 13, 14, 15, 16, 17, 18, 19, 20, 21, 22, 23, 24, 25, 26, 27, 28, 29, 30, 31, 32], [0, 1, 2, 3, 4, 5, 6, 7, 8, 9, 10, 11, 12, 13, 14, 15, 16, 17, 18, 19, 20, 21, 22, 23, 24, 25, 26, 27, 28, 29, 30, 31, 32, 33], [0, 1, 2, 3, 4, 5, 6, 7, 8, 9, 10, 11, 12, 13, 14, 15, 16, 17, 18, 19, 20, 21, 22, 23, 24, 25, 26, 27, 28, 29, 30, 31, 32, 33, 34], [0, 1, 2, 3, 4, 5, 6, 7, 8, 9, 10, 11, 12, 13, 14, 15, 16, 17, 18, 19, 20, 21, 22, 23, 24, 25, 26, 27, 28, 29, 30, 31, 32, 33, 34, 35], [0, 1, 2, 3, 4, 5, 6, 7, 8, 9, 10, 11, 12, 13, 14, 15, 16, 17, 18, 19, 20, 21, 22, 23, 24, 25, 26, 27, 28, 29, 30, 31, 32, 33, 34, 35, 36], [0, 1, 2, 3, 4, 5, 6, 7, 8, 9, 10, 11, 12, 13, 14, 15, 16, 17, 18, 19, 20, 21, 22, 23, 24, 25, 26, 27, 28, 29, 30, 31, 32, 33, 34, 35, 36, 37], [0, 1, 2, 3, 4, 5, 6, 7, 8, 9, 10, 11, 12, 13, 14, 15, 16, 17, 18, 19, 20, 21, 22, 23, 24, 25, 26, 27, 28, 29, 30, 31, 32, 33, 34, 35, 36, 37, 38], [0, 1, 2, 3, 4, 5, 6, 7, 8, 9, 10, 11, 12, 13, 14, 15, 16, 17, 18, 19, 20, 21, 22, 23, 24, 25, 26, 27, 28, 29, 30, 31, 32, 33, 34, 35, 36, 37, 38, 39], [0, 1, 2, 3, 4, 5, 6, 7, 8, 9, 10, 11, 12, 13, 14, 15, 16, 17, 18, 19, 20, 21, 22, 23, 24, 25, 26, 27, 28, 29, 30, 31, 32, 33, 34, 35, 36, 37, 38, 39, 40], [0, 1, 2, 3, 4, 5, 6, 7, 8, 9, 10, 11, 12, 13, 14, 15, 16, 17, 18, 19, 20, 21, 22, 23, 24, 25, 26, 27, 28, 29, 30, 31, 32, 33, 34, 35, 36, 37, 38, 39, 40, 41], [0, 1, 2, 3, 4, 5, 6, 7, 8, 9, 10, 11, 12, 13, 14, 15, 16, 17, 18, 19, 20, 21, 22, 23, 24, 25, 26, 27, 28, 29, 30, 31, 32, 33, 34, 35, 36, 37, 38, 39, 40, 41, 42], [0, 1, 2, 3, 4, 5, 6, 7, 8, 9, 10, 11, 12, 13, 14, 15, 16, 17, 18, 19, 20, 21, 22, 23, 24, 25, 26, 27, 28, 29, 30, 31, 32, 33, 34, 35, 36, 37, 38, 39, 40, 41, 42, 43], [0, 1, 2, 3, 4, 5, 6, 7, 8, 9, 10, 11, 12, 13, 14, 15, 16, 17, 18, 19, 20, 21, 22, 23, 24, 25, 26, 27, 28, 29, 30, 31, 32, 33, 34, 35, 36, 37, 38, 39, 40, 41, 42, 43], [0, 1, 2, 3, 4, 5, 6, 7, 8, 9, 10, 11, 12, 13, 14, 15, 16, 17, 18, 19, 20, 21, 22, 23, 24, 25, 26, 27, 28, 29, 30, 31, 32, 33, 34, 35, 36, 37, 38, 39, 40, 41, 42, 43, 44, 45], [0, 1, 2, 3, 4, 5, 6, 7, 8, 9, 10, 11, 12, 13, 14, 15, 16, 17, 18, 19, 20, 21, 22, 23, 24, 25, 26, 27, 28, 29, 30, 31, 32, 33, 34, 35, 36, 37, 38, 39, 40, 41, 42, 43, 44, 45, 46], [0, 1, 2, 3, 4, 5, 6, 7, 8, 9, 10, 11, 12, 13, 14, 15, 16, 17, 18, 19, 20, 21, 22, 23, 24, 25, 26, 27, 28, 29, 30, 31, 32, 33, 34, 35, 36, 37, 38, 39, 40, 41, 42, 43, 44, 45, 46, 47], [0, 1, 2, 3, 4, 5, 6, 7, 8, 9, 10, 11, 12, 13, 14, 15, 16, 17, 18, 19, 20, 21, 22, 23, 24, 25, 26, 27, 28, 29, 30, 31, 32, 33, 34, 35, 36, 37, 38, 39, 40, 41, 42, 43, 44, 45, 46, 47, 48], [0, 1, 2, 3, 4, 5, 6, 7, 8, 9, 10, 11, 12, 13, 14, 15, 16, 17, 18, 19, 20, 21, 22, 23, 24, 25, 26, 27, 28, 29, 30, 31, 32, 33, 34, 35, 36, 37, 38, 39, 40, 41, 42, 43, 44, 45, 46, 47, 48, 49], [0, 1, 2, 3, 4, 5, 6, 7, 8, 9, 10, 11, 12, 13, 14, 15, 16, 17, 18, 19, 20, 21, 22, 23, 24, 25, 26, 27, 28, 29, 30, 31, 32, 33, 34, 35, 36, 37, 38, 39, 40, 41, 42, 43, 44, 45, 46, 47, 48, 49, 50], [0, 1, 2, 3, 4, 5, 6, 7, 8, 9, 10, 11, 12, 13, 14, 15, 16, 17, 18, 19, 20, 21, 22, 23, 24, 25, 26, 27, 28, 29, 30, 31, 32, 33, 34, 35, 36, 37, 38, 39, 40, 41, 42, 43, 44, 45, 46, 47, 48, 49, 50, 51]] (by kernel_rfl) (by kernel_rfl) (by kernel_rfl) (by kernel_rfl) [3, 6, 7, 9, 10, 11, 82, 83, 84, 170] [2, 3] (by kernel_rfl)
                                                      ⟨⟨⟨⟨⟨⟨⟨⟨⟨⟨⟨⟨⟨⟨⟨⟨⟨⟨⟨⟨⟨⟨⟨⟨⟨⟨⟨⟨⟨⟨⟨⟨⟨⟨⟨⟨⟨⟨⟨⟨⟨⟨⟨⟨⟨⟨⟨⟨⟨⟨⟨⟨⟨trivial,
                                                      tri_quietW (fun β => []) [] [] (fun β => []) (by kernel_rfl) (fun β extra => by kernel_rfl) (by kernel_rfl) (fun β => trivial)⟩,
                                                      tri_quietW (fun β => [(119, .bool false)]) [] [] (fun β => [(.bool false, .bool false)]) (by kernel_rfl) (fun β extra => by kernel_rfl) (by kernel_rfl) (fun β => ⟨rfl, trivial⟩)⟩,
                                                      tri_quietW (fun β => []) [] [] (fun β => []) (by kernel_rfl) (fun β extra => by kernel_rfl) (by kernel_rfl) (fun β => trivial)⟩,
                                                      tri_quietW (fun β => []) [] [] (fun β => []) (by kernel_rfl) (fun β extra => by kernel_rfl) (by kernel_rfl) (fun β => trivial)⟩,
                                                      tri_quietW (fun β => [(122, .bool false)]) [] [] (fun β => [(.bool false, .bool false)]) (by kernel_rfl) (fun β extra => by kernel_rfl) (by kernel_rfl) (fun β => ⟨rfl, trivial⟩)⟩,
                                                      tri_quietW (fun β => []) [] [] (fun β => []) (by kernel_rfl) (fun β extra => by kernel_rfl) (by kernel_rfl) (fun β => trivial)⟩,
                                                      tri_quietW (fun β => []) [] [] (fun β => []) (by kernel_rfl) (fun β extra => by kernel_rfl) (by kernel_rfl) (fun β => trivial)⟩,
                                                      tri_quietW (fun β => []) [] [] (fun β => []) (by kernel_rfl) (fun β extra => by kernel_rfl) (by kernel_rfl) (fun β => trivial)⟩,
                                                      tri_quietW (fun β => [(126, .bool false)]) [] [] (fun β => [(.bool false, .bool false)]) (by kernel_rfl) (fun β extra => by kernel_rfl) (by kernel_rfl) (fun β => ⟨rfl, trivial⟩)⟩,
                                                      tri_quietW (fun β => []) [] [] (fun β => []) (by kernel_rfl) (fun β extra => by kernel_rfl) (by kernel_rfl) (fun β => trivial)⟩,
                                                      tri_quietW (fun β => []) [] [] (fun β => []) (by kernel_rfl) (fun β extra => by kernel_rfl) (by kernel_rfl) (fun β => trivial)⟩,
                                                      tri_quietW (fun β => []) [] [] (fun β => []) (by kernel_rfl) (fun β extra => by kernel_rfl) (by kernel_rfl) (fun β => trivial)⟩,
                                                      tri_quietW (fun β => []) [0] [0] (fun β => [(pA b3, pA b3)]) (by kernel_rfl) (fun β extra => by kernel_rfl) (by kernel_rfl) (fun β => ⟨rfl, trivial⟩)⟩,
                                                      tri_callVW (fun β => .bool true) (fun β => by kernel_rfl) 25 (fun β => #[iV (elI (lnT T (p.n.N + 1)) j), .agg #[iV (p.n.out b j).1, iV (p.n.out b j).2]]) (by kernel_rfl) (fun β extra => by kernel_rfl) (fun β => by kernel_rfl) (fun β w1 k1 h1 => (by have h := inside_any (elI (lnT T (p.n.N + 1)) j) (p.n.out b j) w1; rw [hd5] at h; exact h))⟩,
                                                      tri_quietW (fun β => [(132, .bool false)]) [] [] (fun β => [(.bool false, .bool false)]) (by kernel_rfl) (fun β extra => by kernel_rfl) (by kernel_rfl) (fun β => ⟨rfl, trivial⟩)⟩,
                                                      tri_quietW (fun β => []) [] [] (fun β => []) (by kernel_rfl) (fun β extra => by kernel_rfl) (by kernel_rfl) (fun β => trivial)⟩,
                                                      tri_quietW (fun β => []) [] [] (fun β => []) (by kernel_rfl) (fun β extra => by kernel_rfl) (by kernel_rfl) (fun β => trivial)⟩,
                                                      tri_quietW (fun β => []) [] [] (fun β => []) (by kernel_rfl) (fun β extra => by kernel_rfl) (by kernel_rfl) (fun β => trivial)⟩,
                                                      tri_quietW (fun β => []) [] [] (fun β => []) (by kernel_rfl) (fun β extra => by kernel_rfl) (by kernel_rfl) (fun β => trivial)⟩,
                                                      tri_quietW (fun β => [(137, iV qn)]) [] [] (fun β => [(iV (IntKind.i64.wrap (elI (lnT T (p.n.N + 1)) j * gv)), iV qn)]) (by kernel_rfl) (fun β extra => by kernel_rfl) (by kernel_rfl) (fun β => ⟨((wr (by omega) (by omega)).trans (io hqn)), trivial⟩)⟩,
                                                      tri_callVW (fun β => iV (dwn qn)) (fun β => by kernel_rfl) 26 (fun β => #[iV qn]) (by kernel_rfl) (fun β extra => by kernel_rfl) (fun β => by kernel_rfl) (fun β w1 k1 h1 => ldown_any qn (by omega) (by omega) w1)⟩,
                                                      tri_quietW (fun β => []) [0] [0] (fun β => [(pA b4, pA b4)]) (by kernel_rfl) (fun β extra => by kernel_rfl) (by kernel_rfl) (fun β => ⟨rfl, trivial⟩)⟩,
                                                      tri_callVW (fun β => .bool true) (fun β => by kernel_rfl) 25 (fun β => #[iV (dwn qn), .agg #[iV ((lonS (p.n.out b j) (elB p.bs b).2.2.2.2).1), iV ((lonS (p.n.out b j) (elB p.bs b).2.2.2.2).2)]]) (by kernel_rfl) (fun β extra => by kernel_rfl) (fun β => by kernel_rfl) (fun β w1 k1 h1 => (by have h := inside_any (dwn qn) (lonS (p.n.out b j) (elB p.bs b).2.2.2.2) w1; rw [hd6] at h; exact h))⟩,
                                                      tri_quietW (fun β => [(141, .bool false)]) [] [] (fun β => [(.bool false, .bool false)]) (by kernel_rfl) (fun β extra => by kernel_rfl) (by kernel_rfl) (fun β => ⟨rfl, trivial⟩)⟩,
                                                      tri_quietW (fun β => []) [] [] (fun β => []) (by kernel_rfl) (fun β extra => by kernel_rfl) (by kernel_rfl) (fun β => trivial)⟩,
                                                      tri_quietW (fun β => []) [] [] (fun β => []) (by kernel_rfl) (fun β extra => by kernel_rfl) (by kernel_rfl) (fun β => trivial)⟩,
                                                      tri_quietW (fun β => []) [] [] (fun β => []) (by kernel_rfl) (fun β extra => by kernel_rfl) (by kernel_rfl) (fun β => trivial)⟩,
                                                      tri_quietW (fun β => [(145, .bool true)]) [] [] (fun β => [(.bool (jv == 2), .bool true)]) (by kernel_rfl) (fun β extra => by kernel_rfl) (by kernel_rfl) (fun β => ⟨(bo hd7), trivial⟩)⟩,
                                                      tri_quietW (fun β => []) [] [] (fun β => []) (by kernel_rfl) (fun β extra => by kernel_rfl) (by kernel_rfl) (fun β => trivial)⟩,
                                                      tri_quietW (fun β => []) [] [] (fun β => []) (by kernel_rfl) (fun β extra => by kernel_rfl) (by kernel_rfl) (fun β => trivial)⟩,
                                                      tri_quietW (fun β => [(148, .bool false)]) [] [] (fun β => [(.bool false, .bool false)]) (by kernel_rfl) (fun β extra => by kernel_rfl) (by kernel_rfl) (fun β => ⟨rfl, trivial⟩)⟩,
                                                      tri_quietW (fun β => []) [] [] (fun β => []) (by kernel_rfl) (fun β extra => by kernel_rfl) (by kernel_rfl) (fun β => trivial)⟩,
                                                      tri_quietW (fun β => []) [] [] (fun β => []) (by kernel_rfl) (fun β extra => by kernel_rfl) (by kernel_rfl) (fun β => trivial)⟩,
                                                      tri_quietW (fun β => []) [] [] (fun β => []) (by kernel_rfl) (fun β extra => by kernel_rfl) (by kernel_rfl) (fun β => trivial)⟩,
                                                      tri_quietW (fun β => []) [] [] (fun β => []) (by kernel_rfl) (fun β extra => by kernel_rfl) (by kernel_rfl) (fun β => trivial)⟩,
                                                      tri_quietW (fun β => [(153, .bool false)]) [] [] (fun β => [(.bool (jv == 0), .bool false)]) (by kernel_rfl) (fun β extra => by kernel_rfl) (by kernel_rfl) (fun β => ⟨(bo hd8), trivial⟩)⟩,
                                                      tri_quietW (fun β => []) [] [] (fun β => []) (by kernel_rfl) (fun β extra => by kernel_rfl) (by kernel_rfl) (fun β => trivial)⟩,
                                                      tri_quietW (fun β => []) [] [] (fun β => []) (by kernel_rfl) (fun β extra => by kernel_rfl) (by kernel_rfl) (fun β => trivial)⟩,
                                                      tri_quietW (fun β => []) [] [] (fun β => []) (by kernel_rfl) (fun β extra => by kernel_rfl) (by kernel_rfl) (fun β => trivial)⟩,
                                                      tri_quietW (fun β => []) [] [] (fun β => []) (by kernel_rfl) (fun β extra => by kernel_rfl) (by kernel_rfl) (fun β => trivial)⟩,
                                                      tri_quietW (fun β => []) [] [] (fun β => []) (by kernel_rfl) (fun β extra => by kernel_rfl) (by kernel_rfl) (fun β => trivial)⟩,
                                                      tri_quietW (fun β => []) [] [] (fun β => []) (by kernel_rfl) (fun β extra => by kernel_rfl) (by kernel_rfl) (fun β => trivial)⟩,
                                                      tri_quietW (fun β => [(160, .bool true)]) [] [] (fun β => [(.bool (fe == 0), .bool true)]) (by kernel_rfl) (fun β extra => by kernel_rfl) (by kernel_rfl) (fun β => ⟨(bo hd9), trivial⟩)⟩,
                                                      tri_quietW (fun β => []) [] [] (fun β => []) (by kernel_rfl) (fun β extra => by kernel_rfl) (by kernel_rfl) (fun β => trivial)⟩,
                                                      tri_quietW (fun β => []) [] [] (fun β => []) (by kernel_rfl) (fun β extra => by kernel_rfl) (by kernel_rfl) (fun β => trivial)⟩,
                                                      tri_quietW (fun β => []) [] [] (fun β => []) (by kernel_rfl) (fun β extra => by kernel_rfl) (by kernel_rfl) (fun β => trivial)⟩,
                                                      tri_quietW (fun β => [(164, .bool true)]) [] [] (fun β => [(.bool (decide (fv ≤ (j : Int))), .bool true)]) (by kernel_rfl) (fun β extra => by kernel_rfl) (by kernel_rfl) (fun β => ⟨(bo hd10), trivial⟩)⟩,
                                                      tri_quietW (fun β => []) [] [] (fun β => []) (by kernel_rfl) (fun β extra => by kernel_rfl) (by kernel_rfl) (fun β => trivial)⟩,
                                                      tri_quietW (fun β => []) [] [] (fun β => []) (by kernel_rfl) (fun β extra => by kernel_rfl) (by kernel_rfl) (fun β => trivial)⟩,
                                                      tri_quietW (fun β => []) [] [] (fun β => []) (by kernel_rfl) (fun β extra => by kernel_rfl) (by kernel_rfl) (fun β => trivial)⟩,
                                                      tri_quietW (fun β => [(168, .bool false)]) [] [] (fun β => [(.bool (jv != 2), .bool false)]) (by kernel_rfl) (fun β extra => by kernel_rfl) (by kernel_rfl) (fun β => ⟨(bo hd11), trivial⟩)⟩,
                                                      tri_quietW (fun β => []) [] [] (fun β => []) (by kernel_rfl) (fun β extra => by kernel_rfl) (by kernel_rfl) (fun β => trivial)⟩,
                                                      tri_quietW (fun β => []) [] [] (fun β => []) (by kernel_rfl) (fun β extra => by kernel_rfl) (by kernel_rfl) (fun β => trivial)⟩
                                                      (fun β => ⟨[(3, pA b1), (6, .bool false), (7, iV (b : Int)), (9, iV gv), (10, iV fv), (11, iV fe), (82, sV g2 (p.n.N + 1) cap2), (83, iV ((p.n.N + 1) : Int)), (84, iV (j : Int)), (170, .bool false)], [(g2, cO ((lnT T (p.n.N + 1)).flatMap inR ++ sp2) 3), (b1, aO #[.slice p.ba p.bs.length p.bc, iV p.near, iV p.last, .slice p.ta p.ts.length p.tc] 33)]⟩) (fun β => by kernel_rfl) (fun β5 => ?_)
                          refine run_auto [(171, iV ((j + 1 : Nat) : Int))] 7 [false] [] [3, 6, 7, 9, 10, 11, 82, 83, 84] [0, 1] (st' := ⟨[(3, pA b1), (6, .bool false), (7, iV (b : Int)), (9, iV gv), (10, iV fv), (11, iV fe), (82, sV g2 (p.n.N + 1) cap2), (83, iV ((p.n.N + 1) : Int)), (84, iV ((j + 1 : Nat) : Int))], [(g2, cO ((lnT T (p.n.N + 1)).flatMap inR ++ sp2) 3), (b1, aO #[.slice p.ba p.bs.length p.bc, iV p.near, iV p.last, .slice p.ta p.ts.length p.tc] 33)]⟩) (acc := [(iV (IntKind.i64.wrap ((j : Int) + 1)), iV ((j + 1 : Nat) : Int)), (.bool false, .bool false)]) (by kernel_rfl) (by kernel_rfl) ⟨(wr (by omega) (by omega)), rfl, trivial⟩ ?_
                          exact run_round (by kernel_rfl) (hJ0 (j + 1) (by omega) (by omega))
                        | true =>
                          have hp11 : ¬ jv = 2 := by simpa using hd11
                          exfalso
                          omega
                  | true =>
                    have hp8 : jv = 0 := by simpa using hd8
                    exfalso
                    omega
      · skip
        cases hd3 : (fe != 0) with
        | false =>
          have hp3 : fe = 0 := by simpa using hd3
          cases hd4 : (ae != 0) with
          | false =>
            have hp4 : ae = 0 := by simpa using hd4
            cases hd5 : (ae == 0) with
            | false =>
              have hp5 : ¬ ae = 0 := by simpa using hd5
              refine run_auto [(56, .bool false), (63, .bool false), (71, .bool false)] 30 [false] [] [3, 6, 7, 8, 9, 10, 11] [0, 1] (st' := ⟨[(3, pA b1), (6, .bool false), (7, iV (b : Int)), (8, sV g2 (p.n.N + 1) cap2), (9, iV gv), (10, iV fv), (11, iV fe)], [(g2, cO ((lnT T (p.n.N + 1)).flatMap inR ++ sp2) 3), (b1, aO #[.slice p.ba p.bs.length p.bc, iV p.near, iV p.last, .slice p.ta p.ts.length p.tc] 33)]⟩) (acc := [(.bool false, .bool false), (.bool (ae == 0), .bool false), (.bool (ae != 0), .bool false), (.bool (fe != 0), .bool false)]) (by kernel_rfl) (by kernel_rfl) ⟨rfl, (bo hd5), (bo hd4), (bo hd3), trivial⟩ ?_
              exact run_eqK (by kernel_rfl) hjoin7
            | true =>
              have hp5 : ae = 0 := by simpa using hd5
              cases hd6 : (decide (av < fv)) with
              | false =>
                have hp6 := of_decide_eq_false hd6
                refine run_auto [(56, .bool false), (63, .bool false), (71, .bool true), (74, .bool false), (78, .bool false)] 30 [false] [] [3, 6, 7, 8, 9, 10, 11] [0, 1] (st' := ⟨[(3, pA b1), (6, .bool false), (7, iV (b : Int)), (8, sV g2 (p.n.N + 1) cap2), (9, iV gv), (10, iV fv), (11, iV fe)], [(g2, cO ((lnT T (p.n.N + 1)).flatMap inR ++ sp2) 3), (b1, aO #[.slice p.ba p.bs.length p.bc, iV p.near, iV p.last, .slice p.ta p.ts.length p.tc] 33)]⟩) (acc := [(.bool false, .bool false), (.bool (decide (av < fv)), .bool false), (.bool (fe != 0), .bool false), (.bool (ae == 0), .bool true), (.bool (ae != 0), .bool false), (.bool (fe != 0), .bool false)]) (by kernel_rfl) (by kernel_rfl) ⟨rfl, (bo hd6), (bo hd3), (bo hd5), (bo hd4), (bo hd3), trivial⟩ ?_
                exact run_eqK (by kernel_rfl) hjoin7
              | true =>
                have hp6 := of_decide_eq_true hd6
                refine run_auto [(56, .bool false), (63, .bool false), (71, .bool true), (74, .bool false), (78, .bool true)] 34 [true] [] [3, 6, 7, 8, 9, 10, 11] [0, 1] (st' := ⟨[(3, pA b1), (6, .bool false), (7, iV (b : Int)), (8, sV g2 (p.n.N + 1) cap2), (9, iV gv), (10, iV fv), (11, iV fe)], [(g2, cO ((lnT T (p.n.N + 1)).flatMap inR ++ sp2) 3), (b1, aO #[.slice p.ba p.bs.length p.bc, iV p.near, iV p.last, .slice p.ta p.ts.length p.tc] 33)]⟩) (acc := [(.bool true, .bool true), (.bool (decide (av < fv)), .bool true), (.bool (fe != 0), .bool false), (.bool (ae == 0), .bool true), (.bool (ae != 0), .bool false), (.bool (fe != 0), .bool false)]) (by kernel_rfl) (by kernel_rfl) ⟨rfl, (bo hd6), (bo hd3), (bo hd5), (bo hd4), (bo hd3), trivial⟩ ?_
                refine run_end (fn := f4) rfl (Nat.le_refl _) (by kernel_rfl) [] [.bool false] (e := []) (by kernel_rfl) trivial (fun w1 k1 h1 => ?_)
                exfalso
                omega
          | true =>
            have hp4 : ¬ ae = 0 := by simpa using hd4
            cases hd5 : (ae != 4) with
            | false =>
              have hp5 : ae = 4 := by simpa using hd5
              cases hd6 : (ae == 0) with
              | false =>
                have hp6 : ¬ ae = 0 := by simpa using hd6
                refine run_auto [(56, .bool false), (63, .bool true), (66, .bool false), (71, .bool false)] 30 [false] [] [3, 6, 7, 8, 9, 10, 11] [0, 1] (st' := ⟨[(3, pA b1), (6, .bool false), (7, iV (b : Int)), (8, sV g2 (p.n.N + 1) cap2), (9, iV gv), (10, iV fv), (11, iV fe)], [(g2, cO ((lnT T (p.n.N + 1)).flatMap inR ++ sp2) 3), (b1, aO #[.slice p.ba p.bs.length p.bc, iV p.near, iV p.last, .slice p.ta p.ts.length p.tc] 33)]⟩) (acc := [(.bool false, .bool false), (.bool (ae == 0), .bool false), (.bool (ae != 4), .bool false), (.bool (ae != 0), .bool true), (.bool (fe != 0), .bool false)]) (by kernel_rfl) (by kernel_rfl) ⟨rfl, (bo hd6), (bo hd5), (bo hd4), (bo hd3), trivial⟩ ?_
                exact run_eqK (by kernel_rfl) hjoin7
              | true =>
                have hp6 : ae = 0 := by simpa using hd6
                cases hd7 : (decide (av < fv)) with
                | false =>
                  have hp7 := of_decide_eq_false hd7
                  refine run_auto [(56, .bool false), (63, .bool true), (66, .bool false), (71, .bool true), (74, .bool false), (78, .bool false)] 30 [false] [] [3, 6, 7, 8, 9, 10, 11] [0, 1] (st' := ⟨[(3, pA b1), (6, .bool false), (7, iV (b : Int)), (8, sV g2 (p.n.N + 1) cap2), (9, iV gv), (10, iV fv), (11, iV fe)], [(g2, cO ((lnT T (p.n.N + 1)).flatMap inR ++ sp2) 3), (b1, aO #[.slice p.ba p.bs.length p.bc, iV p.near, iV p.last, .slice p.ta p.ts.length p.tc] 33)]⟩) (acc := [(.bool false, .bool false), (.bool (decide (av < fv)), .bool false), (.bool (fe != 0), .bool false), (.bool (ae == 0), .bool true), (.bool (ae != 4), .bool false), (.bool (ae != 0), .bool true), (.bool (fe != 0), .bool false)]) (by kernel_rfl) (by kernel_rfl) ⟨rfl, (bo hd7), (bo hd3), (bo hd6), (bo hd5), (bo hd4), (bo hd3), trivial⟩ ?_
                  exact run_eqK (by kernel_rfl) hjoin7
                | true =>
                  have hp7 := of_decide_eq_true hd7
                  refine run_auto [(56, .bool false), (63, .bool true), (66, .bool false), (71, .bool true), (74, .bool false), (78, .bool true)] 34 [true] [] [3, 6, 7, 8, 9, 10, 11] [0, 1] (st' := ⟨[(3, pA b1), (6, .bool false), (7, iV (b : Int)), (8, sV g2 (p.n.N + 1) cap2), (9, iV gv), (10, iV fv), (11, iV fe)], [(g2, cO ((lnT T (p.n.N + 1)).flatMap inR ++ sp2) 3), (b1, aO #[.slice p.ba p.bs.length p.bc, iV p.near, iV p.last, .slice p.ta p.ts.length p.tc] 33)]⟩) (acc := [(.bool true, .bool true), (.bool (decide (av < fv)), .bool true), (.bool (fe != 0), .bool false), (.bool (ae == 0), .bool true), (.bool (ae != 4), .bool false), (.bool (ae != 0), .bool true), (.bool (fe != 0), .bool false)]) (by kernel_rfl) (by kernel_rfl) ⟨rfl, (bo hd7), (bo hd3), (bo hd6), (bo hd5), (bo hd4), (bo hd3), trivial⟩ ?_
                  refine run_end (fn := f4) rfl (Nat.le_refl _) (by kernel_rfl) [] [.bool false] (e := []) (by kernel_rfl) trivial (fun w1 k1 h1 => ?_)
                  exfalso
                  omega
            | true =>
              have hp5 : ¬ ae = 4 := by simpa using hd5
              refine run_auto [(56, .bool false), (63, .bool true), (66, .bool true)] 34 [true] [] [3, 6, 7, 8, 9, 10, 11] [0, 1] (st' := ⟨[(3, pA b1), (6, .bool false), (7, iV (b : Int)), (8, sV g2 (p.n.N + 1) cap2), (9, iV gv), (10, iV fv), (11, iV fe)], [(g2, cO ((lnT T (p.n.N + 1)).flatMap inR ++ sp2) 3), (b1, aO #[.slice p.ba p.bs.length p.bc, iV p.near, iV p.last, .slice p.ta p.ts.length p.tc] 33)]⟩) (acc := [(.bool true, .bool true), (.bool (ae != 4), .bool true), (.bool (ae != 0), .bool true), (.bool (fe != 0), .bool false)]) (by kernel_rfl) (by kernel_rfl) ⟨rfl, (bo hd5), (bo hd4), (bo hd3), trivial⟩ ?_
              refine run_end (fn := f4) rfl (Nat.le_refl _) (by kernel_rfl) [] [.bool false] (e := []) (by kernel_rfl) trivial (fun w1 k1 h1 => ?_)
              exfalso
              omega
        | true =>
          have hp3 : ¬ fe = 0 := by simpa using hd3
          cases hd4 : (fe != 4) with
          | false =>
            have hp4 : fe = 4 := by simpa using hd4
            cases hd5 : (ae != 0) with
            | false =>
              have hp5 : ae = 0 := by simpa using hd5
              cases hd6 : (ae == 0) with
              | false =>
                have hp6 : ¬ ae = 0 := by simpa using hd6
                refine run_auto [(56, .bool true), (59, .bool false), (63, .bool false), (71, .bool false)] 30 [false] [] [3, 6, 7, 8, 9, 10, 11] [0, 1] (st' := ⟨[(3, pA b1), (6, .bool false), (7, iV (b : Int)), (8, sV g2 (p.n.N + 1) cap2), (9, iV gv), (10, iV fv), (11, iV fe)], [(g2, cO ((lnT T (p.n.N + 1)).flatMap inR ++ sp2) 3), (b1, aO #[.slice p.ba p.bs.length p.bc, iV p.near, iV p.last, .slice p.ta p.ts.length p.tc] 33)]⟩) (acc := [(.bool false, .bool false), (.bool (ae == 0), .bool false), (.bool (ae != 0), .bool false), (.bool (fe != 4), .bool false), (.bool (fe != 0), .bool true)]) (by kernel_rfl) (by kernel_rfl) ⟨rfl, (bo hd6), (bo hd5), (bo hd4), (bo hd3), trivial⟩ ?_
                exact run_eqK (by kernel_rfl) hjoin7
              | true =>
                have hp6 : ae = 0 := by simpa using hd6
                refine run_auto [(56, .bool true), (59, .bool false), (63, .bool false), (71, .bool true), (74, .bool true)] 34 [true] [] [3, 6, 7, 8, 9, 10, 11] [0, 1] (st' := ⟨[(3, pA b1), (6, .bool false), (7, iV (b : Int)), (8, sV g2 (p.n.N + 1) cap2), (9, iV gv), (10, iV fv), (11, iV fe)], [(g2, cO ((lnT T (p.n.N + 1)).flatMap inR ++ sp2) 3), (b1, aO #[.slice p.ba p.bs.length p.bc, iV p.near, iV p.last, .slice p.ta p.ts.length p.tc] 33)]⟩) (acc := [(.bool true, .bool true), (.bool (fe != 0), .bool true), (.bool (ae == 0), .bool true), (.bool (ae != 0), .bool false), (.bool (fe != 4), .bool false), (.bool (fe != 0), .bool true)]) (by kernel_rfl) (by kernel_rfl) ⟨rfl, (bo hd3), (bo hd6), (bo hd5), (bo hd4), (bo hd3), trivial⟩ ?_
                refine run_end (fn := f4) rfl (Nat.le_refl _) (by kernel_rfl) [] [.bool false] (e := []) (by kernel_rfl) trivial (fun w1 k1 h1 => ?_)
                exfalso
                omega
            | true =>
              have hp5 : ¬ ae = 0 := by simpa using hd5
              cases hd6 : (ae != 4) with
              | false =>
                have hp6 : ae = 4 := by simpa using hd6
                cases hd7 : (ae == 0) with
                | false =>
                  have hp7 : ¬ ae = 0 := by simpa using hd7
                  refine run_auto [(56, .bool true), (59, .bool false), (63, .bool true), (66, .bool false), (71, .bool false)] 30 [false] [] [3, 6, 7, 8, 9, 10, 11] [0, 1] (st' := ⟨[(3, pA b1), (6, .bool false), (7, iV (b : Int)), (8, sV g2 (p.n.N + 1) cap2), (9, iV gv), (10, iV fv), (11, iV fe)], [(g2, cO ((lnT T (p.n.N + 1)).flatMap inR ++ sp2) 3), (b1, aO #[.slice p.ba p.bs.length p.bc, iV p.near, iV p.last, .slice p.ta p.ts.length p.tc] 33)]⟩) (acc := [(.bool false, .bool false), (.bool (ae == 0), .bool false), (.bool (ae != 4), .bool false), (.bool (ae != 0), .bool true), (.bool (fe != 4), .bool false), (.bool (fe != 0), .bool true)]) (by kernel_rfl) (by kernel_rfl) ⟨rfl, (bo hd7), (bo hd6), (bo hd5), (bo hd4), (bo hd3), trivial⟩ ?_
                  exact run_eqK (by kernel_rfl) hjoin7
                | true =>
                  have hp7 : ae = 0 := by simpa using hd7
                  refine run_auto [(56, .bool true), (59, .bool false), (63, .bool true), (66, .bool false), (71, .bool true), (74, .bool true)] 34 [true] [] [3, 6, 7, 8, 9, 10, 11] [0, 1] (st' := ⟨[(3, pA b1), (6, .bool false), (7, iV (b : Int)), (8, sV g2 (p.n.N + 1) cap2), (9, iV gv), (10, iV fv), (11, iV fe)], [(g2, cO ((lnT T (p.n.N + 1)).flatMap inR ++ sp2) 3), (b1, aO #[.slice p.ba p.bs.length p.bc, iV p.near, iV p.last, .slice p.ta p.ts.length p.tc] 33)]⟩) (acc := [(.bool true, .bool true), (.bool (fe != 0), .bool true), (.bool (ae == 0), .bool true), (.bool (ae != 4), .bool false), (.bool (ae != 0), .bool true), (.bool (fe != 4), .bool false), (.bool (fe != 0), .bool true)]) (by kernel_rfl) (by kernel_rfl) ⟨rfl, (bo hd3), (bo hd7), (bo hd6), (bo hd5), (bo hd4), (bo hd3), trivial⟩ ?_
                  refine run_end (fn := f4) rfl (Nat.le_refl _) (by kernel_rfl) [] [.bool false] (e := []) (by kernel_rfl) trivial (fun w1 k1 h1 => ?_)
                  exfalso
                  omega
              | true =>
                have hp6 : ¬ ae = 4 := by simpa using hd6
                refine run_auto [(56, .bool true), (59, .bool false), (63, .bool true), (66, .bool true)] 34 [true] [] [3, 6, 7, 8, 9, 10, 11] [0, 1] (st' := ⟨[(3, pA b1), (6, .bool false), (7, iV (b : Int)), (8, sV g2 (p.n.N + 1) cap2), (9, iV gv), (10, iV fv), (11, iV fe)], [(g2, cO ((lnT T (p.n.N + 1)).flatMap inR ++ sp2) 3), (b1, aO #[.slice p.ba p.bs.length p.bc, iV p.near, iV p.last, .slice p.ta p.ts.length p.tc] 33)]⟩) (acc := [(.bool true, .bool true), (.bool (ae != 4), .bool true), (.bool (ae != 0), .bool true), (.bool (fe != 4), .bool false), (.bool (fe != 0), .bool true)]) (by kernel_rfl) (by kernel_rfl) ⟨rfl, (bo hd6), (bo hd5), (bo hd4), (bo hd3), trivial⟩ ?_
                refine run_end (fn := f4) rfl (Nat.le_refl _) (by kernel_rfl) [] [.bool false] (e := []) (by kernel_rfl) trivial (fun w1 k1 h1 => ?_)
                exfalso
                omega
          | true =>
            have hp4 : ¬ fe = 4 := by simpa using hd4
            refine run_auto [(56, .bool true), (59, .bool true)] 34 [true] [] [3, 6, 7, 8, 9, 10, 11] [0, 1] (st' := ⟨[(3, pA b1), (6, .bool false), (7, iV (b : Int)), (8, sV g2 (p.n.N + 1) cap2), (9, iV gv), (10, iV fv), (11, iV fe)], [(g2, cO ((lnT T (p.n.N + 1)).flatMap inR ++ sp2) 3), (b1, aO #[.slice p.ba p.bs.length p.bc, iV p.near, iV p.last, .slice p.ta p.ts.length p.tc] 33)]⟩) (acc := [(.bool true, .bool true), (.bool (fe != 4), .bool true), (.bool (fe != 0), .bool true)]) (by kernel_rfl) (by kernel_rfl) ⟨rfl, (bo hd4), (bo hd3), trivial⟩ ?_
            refine run_end (fn := f4) rfl (Nat.le_refl _) (by kernel_rfl) [] [.bool false] (e := []) (by kernel_rfl) trivial (fun w1 k1 h1 => ?_)
            exfalso
            omega
  | true =>
    refine run_ret1 21 #[.agg #[.slice p.ba p.bs.length p.bc, iV p.near, iV p.last, .slice p.ta p.ts.length p.tc]] (some 24) (.bool true) (by kernel_rfl) (fun w1 k1 h1 => (by have h := long_any p w1; rw [hd1] at h; exact h)) ?_
    refine run_auto [] 9 [true] [] [1, 2, 3, 6] [0] (st' := ⟨[(1, .int .u8 y), (2, .slice aa L.length lc), (3, pA b1), (6, .bool false)], [(b1, aO #[.slice p.ba p.bs.length p.bc, iV p.near, iV p.last, .slice p.ta p.ts.length p.tc] 33)]⟩) (acc := [(.bool true, .bool true)]) (by kernel_rfl) (by kernel_rfl) ⟨rfl, trivial⟩ ?_
    refine run_ret1 19 #[] (some 30) (.bool true) (by kernel_rfl) (fun w1 k1 h1 => alive_any w1) ?_
    refine run_auto [] 2 [] [] [1, 2, 3, 6] [0] (st' := ⟨[(1, .int .u8 y), (2, .slice aa L.length lc), (3, pA b1), (6, .bool true)], [(b1, aO #[.slice p.ba p.bs.length p.bc, iV p.near, iV p.last, .slice p.ta p.ts.length p.tc] 33)]⟩) (acc := []) (by kernel_rfl) (by kernel_rfl) trivial ?_
    refine run_end (fn := f4) rfl (Nat.le_refl _) (by kernel_rfl) [] [.bool true] (e := []) (by kernel_rfl) trivial (fun w1 k1 h1 => ?_)
    exact ⟨rfl, k1.keeps (fun _ h => h)⟩

end Go.Proofs.Ytfjfkaaflghaiaa
