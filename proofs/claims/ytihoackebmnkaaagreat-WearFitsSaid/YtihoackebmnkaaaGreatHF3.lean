/-
  LAW: WearFits, walked.
-/
import Derived.Test.YtihoackebmnkaaaGreatGn
namespace Go.Proofs.YtihoackebmnkaaaGreat
open Go.RowKit Go.Proofs.Tryz


theorem jud_is {x s : Sp} {g : Int} (h : judV x s = g) : (g = 2 ∧ s.1 ≤ x.1 ∧ x.2 ≤ s.2) ∨ (g = 1 ∧ ¬ (s.1 ≤ x.1 ∧ x.2 ≤ s.2) ∧ max x.1 s.1 ≤ min x.2 s.2) ∨ (g = 0 ∧ ¬ (s.1 ≤ x.1 ∧ x.2 ≤ s.2) ∧ ¬ max x.1 s.1 ≤ min x.2 s.2) := by
  subst h
  unfold judV possS cutS
  by_cases h1 : s.1 ≤ x.1 ∧ x.2 ≤ s.2
  · rw [decide_eq_true h1]
    exact .inl ⟨rfl, h1⟩
  · rw [decide_eq_false h1]
    by_cases h2 : max x.1 s.1 ≤ min x.2 s.2
    · refine .inr (.inl ⟨?_, h1, h2⟩)
      simp [h2]
    · refine .inr (.inr ⟨?_, h1, h2⟩)
      simp [h2]
theorem add_in {p : Wb} {x : Ev} {w : World} {g cap : Nat} {sp : List Value} (h : w.heap[g]? = some (.cells ((p.es ++ [x]).flatMap evR ++ sp).toArray 55 (0, 0))) (h8 : p.es.length ≤ 8) : (p.add x (some ⟨g, 0, none⟩) cap).In w :=
  ⟨Evs.of_flat h, by show (p.es ++ [x]).length ≤ maxLen; rw [List.length_append]; simp only [List.length_singleton, maxLen]; omega⟩
set_option maxRecDepth 100000 in
set_option maxHeartbeats 4000000 in
theorem wearFits_any (p : Wb) (y z : Int) (y1 : 0 ≤ y) (y2 : y ≤ 65535) (z1 : 0 ≤ z) (z2 : z ≤ 255) (w : World) (hp : p.In w) : Calls Tryz.prog 8 #[.agg #[.int .i64 p.ll, .int .i64 p.lh, .int .i64 p.ul, .int .i64 p.uh, .slice p.ea p.es.length p.ec], .int .u16 y, .int .u8 z] w (RetB true w) := by
  obtain ⟨r, hr⟩ : ∃ r, y % 420 = r := ⟨_, rfl⟩
  obtain ⟨d, hd⟩ : ∃ d, z % 60 = d := ⟨_, rfl⟩
  obtain ⟨m, hmr⟩ : ∃ m, r - 60 = m := ⟨_, rfl⟩
  obtain ⟨mh, hmh⟩ : ∃ x, m + d = x := ⟨_, rfl⟩
  have hm1 : spI (m, mh) (-1000) 1000 = true := decide_eq_true (by dsimp only; omega)
  have hvx : vEv (1, 0, m, mh) = true := decide_eq_true (by dsimp only; omega)
  obtain ⟨gr, hgr⟩ : ∃ g, judV (mC p.n p.es.length) (m, mh) = g := ⟨_, rfl⟩
  refine calls_run (fn := f8) (c := (f8.body).getD .skip) [.agg #[.int .i64 p.ll, .int .i64 p.lh, .int .i64 p.ul, .int .i64 p.uh, .slice p.ea p.es.length p.ec], .int .u16 y, .int .u8 z] func8 (by kernel_rfl) (fun _ => False) [] (fun _ h => by cases h) (List.Pairwise.nil) 184 (by kernel_rfl) (by simp) ?_
  refine run_auto [] 2 [] [] [0, 1, 2] [] (st' := ⟨[(0, .agg #[iV p.ll, iV p.lh, iV p.ul, iV p.uh, .slice p.ea p.es.length p.ec]), (1, .int .u16 y), (2, .int .u8 z)], []⟩) (acc := []) (by kernel_rfl) (by kernel_rfl) trivial ?_
  refine run_new (aO #[iV p.ll, iV p.lh, iV p.ul, iV p.uh, .slice p.ea p.es.length p.ec] 26) (fun b1 => pA b1) (some 3) (fun _ => by kernel_rfl) (fun b1 hb1 => ?_)
  refine run_auto [] 13 [] [0, 0] [1, 2, 3, 6, 7, 26] [0] (st' := ⟨[(1, .int .u16 y), (2, .int .u8 z), (3, pA b1), (6, .bool false), (7, iV (p.es.length : Int)), (26, .agg #[iV p.ll, iV p.lh, iV p.ul, iV p.uh, .slice p.ea p.es.length p.ec])], [(b1, aO #[iV p.ll, iV p.lh, iV p.ul, iV p.uh, .slice p.ea p.es.length p.ec] 26)]⟩) (acc := [(pA b1, pA b1), (pA b1, pA b1)]) (by kernel_rfl) (by kernel_rfl) ⟨rfl, rfl, trivial⟩ ?_
  cases hd1 : p.n.ok with
  | false =>
    refine run_ret1 28 #[.agg #[iV p.ll, iV p.lh, iV p.ul, iV p.uh, .slice p.ea p.es.length p.ec]] (some 27) (.bool false) (by kernel_rfl) (fun w1 k1 h1 => (by have h := fine_any p w1 (hp.keep (k1.keeps (fun _ h => h))); rw [hd1] at h; exact h)) ?_
    refine run_auto [(28, .bool true)] 13 [true] [] [1, 2, 3, 6, 7] [0] (st' := ⟨[(1, .int .u16 y), (2, .int .u8 z), (3, pA b1), (6, .bool false), (7, iV (p.es.length : Int))], [(b1, aO #[iV p.ll, iV p.lh, iV p.ul, iV p.uh, .slice p.ea p.es.length p.ec] 26)]⟩) (acc := [(.bool true, .bool true), (.bool true, .bool true)]) (by kernel_rfl) (by kernel_rfl) ⟨rfl, rfl, trivial⟩ ?_
    refine run_ret1 13 #[] (some 37) (.bool true) (by kernel_rfl) (fun w1 k1 h1 => awake_any w1) ?_
    refine run_auto [] 2 [] [] [1, 2, 3, 6, 7] [0] (st' := ⟨[(1, .int .u16 y), (2, .int .u8 z), (3, pA b1), (6, .bool true), (7, iV (p.es.length : Int))], [(b1, aO #[iV p.ll, iV p.lh, iV p.ul, iV p.uh, .slice p.ea p.es.length p.ec] 26)]⟩) (acc := []) (by kernel_rfl) (by kernel_rfl) trivial ?_
    refine run_end (fn := f8) rfl (Nat.le_refl _) (by kernel_rfl) [] [.bool true] (e := []) (by kernel_rfl) trivial (fun w1 k1 h1 => ?_)
    exact ⟨rfl, k1.keeps (fun _ h => h)⟩
  | true =>
    have hok := hd1
    have hF := Wn.fine hok
    have hn8 : p.es.length ≤ 8 := hF.n8
    refine run_ret1 28 #[.agg #[iV p.ll, iV p.lh, iV p.ul, iV p.uh, .slice p.ea p.es.length p.ec]] (some 27) (.bool true) (by kernel_rfl) (fun w1 k1 h1 => (by have h := fine_any p w1 (hp.keep (k1.keeps (fun _ h => h))); rw [hd1] at h; exact h)) ?_
    cases hd2 : ((p.es.length : Int) == 0) with
    | false =>
      have hp2 : ¬ (p.es.length : Int) = 0 := by simpa using hd2
      have hne : 0 < p.es.length := by have := hd2; simp at this; omega
      obtain ⟨be, oe, hbe, _⟩ := hp.ev (by intro h; rw [h] at hne; cases hne)
      cases hd3 : (decide (8 ≤ (p.es.length : Int))) with
      | false =>
        have hp3 := of_decide_eq_false hd3
        have h7 : p.n.es.length < 8 := by show p.es.length < 8; omega
        have hqok := (add_fine (x := (1, 0, m, mh)) hF hvx h7).okB
        have hqc := add_can (x := (1, 0, m, mh)) hF hvx h7 rfl
        rw [show p.n.B p.n.es.length = (mC p.n p.es.length) from (mC_le _ (Nat.le_refl _)).symm] at hqc
        refine run_auto [(28, .bool false), (31, .bool false), (35, .bool false), (39, iV y), (40, iV r), (41, iV m), (45, iV z), (46, iV d), (47, iV mh)] 28 [false] [] [3, 6, 7, 42, 47] [0] (st' := ⟨[(3, pA b1), (6, .bool false), (7, iV (p.es.length : Int)), (42, iV m), (47, iV mh)], [(b1, aO #[iV p.ll, iV p.lh, iV p.ul, iV p.uh, .slice p.ea p.es.length p.ec] 26)]⟩) (acc := [(iV (IntKind.i64.wrap (m + d)), iV mh), (iV (Int.tmod z 60), iV d), (iV (IntKind.i64.wrap z), iV z), (iV (IntKind.i64.wrap (r - 60)), iV m), (iV (Int.tmod y 420), iV r), (iV (IntKind.i64.wrap y), iV y), (.bool false, .bool false), (.bool (decide (8 ≤ (p.es.length : Int))), .bool false), (.bool ((p.es.length : Int) == 0), .bool false), (.bool false, .bool false)]) (by kernel_rfl) (by kernel_rfl) ⟨((wr (by omega) (by omega)).trans (io hmh)), ((rm 60 (by omega)).trans (io hd)), (wr (by omega) (by omega)), ((wr (by omega) (by omega)).trans (io hmr)), ((rm 420 (by omega)).trans (io hr)), (wr (by omega) (by omega)), rfl, (bo hd3), (bo hd2), rfl, trivial⟩ ?_
        refine run_ret1 32 #[iV m, iV mh] (some 48) (.agg #[iV m, iV mh]) (by kernel_rfl) (fun w1 k1 h1 => span_any m mh w1) ?_
        refine run_new (aO #[iV 0, iV 0] 23) (fun b2 => pA b2) (some 9) (fun _ => by kernel_rfl) (fun b2 hb2 => ?_)
        refine run_auto [] 6 [] [0, 1, 0] [3, 6, 7, 9, 50, 51] [0, 1] (st' := ⟨[(3, pA b1), (6, .bool false), (7, iV (p.es.length : Int)), (9, pA b2), (50, .agg #[iV p.ll, iV p.lh, iV p.ul, iV p.uh, .slice p.ea p.es.length p.ec]), (51, .agg #[iV m, iV mh])], [(b2, aO #[iV m, iV mh] 23), (b1, aO #[iV p.ll, iV p.lh, iV p.ul, iV p.uh, .slice p.ea p.es.length p.ec] 26)]⟩) (acc := [(pA b2, pA b2), (pA b1, pA b1), (pA b2, pA b2)]) (by kernel_rfl) (by kernel_rfl) ⟨rfl, rfl, rfl, trivial⟩ ?_
        cases hd4 : p.n.can with
        | false =>
          have hqc0 : (p.n.add (1, 0, m, mh)).can = false := by
            rw [add_can hF hvx h7 rfl]
            have hK : possS (mC p.n p.es.length) = false := by
              have h1 := hF.ok_.can_F
              rw [hd4] at h1
              rw [show (mC p.n p.es.length) = p.n.F p.n.es.length from (mC_le _ (Nat.le_refl _)).trans (B_last _)]
              exact h1.symm
            rw [show p.n.B p.n.es.length = (mC p.n p.es.length) from (mC_le _ (Nat.le_refl _)).symm]
            unfold possS cutS at *
            have := of_decide_eq_false hK
            exact decide_eq_false (by dsimp only; omega)
          refine run_ret1 20 #[.agg #[iV p.ll, iV p.lh, iV p.ul, iV p.uh, .slice p.ea p.es.length p.ec], .agg #[iV m, iV mh]] (some 52) (.tuple #[iV 0, iV 10]) (by kernel_rfl) (fun w1 k1 h1 => (by have h := Fits_any p (m, mh) w1 (hp.keep (k1.keeps (fun _ h => h))); rw [show fitsR p (m, mh) = .inl 10 from by unfold fitsR; rw [hok, hm1, hd4]; rfl] at h; exact h)) ?_
          refine run_auto [(58, iV ((p.es.length : Int) - 1))] 11 [] [1] [3, 6, 7, 9, 10, 11, 56, 58] [0, 1] (st' := ⟨[(3, pA b1), (6, .bool false), (7, iV (p.es.length : Int)), (9, pA b2), (10, iV 0), (11, iV 10), (56, .agg #[iV p.ll, iV p.lh, iV p.ul, iV p.uh, .slice p.ea p.es.length p.ec]), (58, iV ((p.es.length : Int) - 1))], [(b2, aO #[iV m, iV mh] 23), (b1, aO #[iV p.ll, iV p.lh, iV p.ul, iV p.uh, .slice p.ea p.es.length p.ec] 26)]⟩) (acc := [(iV (IntKind.i64.wrap ((p.es.length : Int) - 1)), iV ((p.es.length : Int) - 1)), (pA b1, pA b1)]) (by kernel_rfl) (by kernel_rfl) ⟨(wr (by omega) (by omega)), rfl, trivial⟩ ?_
          refine run_ret1 14 #[.agg #[iV p.ll, iV p.lh, iV p.ul, iV p.uh, .slice p.ea p.es.length p.ec], iV ((p.es.length : Int) - 1)] (some 59) (.tuple #[.agg #[iV 0, iV 0], iV 10]) (by kernel_rfl) (fun w1 k1 h1 => (by have h := After_any p ((p.es.length : Int) - 1) w1 (hp.keep (k1.keeps (fun _ h => h))); rw [show afterR p ((p.es.length : Int) - 1) = .inl 10 from by unfold afterR; rw [hok, decide_eq_true (show 0 ≤ ((p.es.length : Int) - 1) ∧ ((p.es.length : Int) - 1) < (p.es.length : Int) by omega), hd4]; rfl] at h; exact h)) ?_
          refine run_auto [] 3 [] [] [3, 6, 7, 9, 10, 11, 60, 61] [0, 1] (st' := ⟨[(3, pA b1), (6, .bool false), (7, iV (p.es.length : Int)), (9, pA b2), (10, iV 0), (11, iV 10), (60, .agg #[iV 0, iV 0]), (61, iV 10)], [(b2, aO #[iV m, iV mh] 23), (b1, aO #[iV p.ll, iV p.lh, iV p.ul, iV p.uh, .slice p.ea p.es.length p.ec] 26)]⟩) (acc := []) (by kernel_rfl) (by kernel_rfl) trivial ?_
          refine run_new (aO #[iV 0, iV 0] 23) (fun b3 => pA b3) (some 12) (fun _ => by kernel_rfl) (fun b3 hb3 => ?_)
          refine run_auto [] 8 [] [0, 2, 1] [3, 6, 7, 9, 10, 11, 12, 13, 63, 65] [0, 1, 2] (st' := ⟨[(3, pA b1), (6, .bool false), (7, iV (p.es.length : Int)), (9, pA b2), (10, iV 0), (11, iV 10), (12, pA b3), (13, iV 10), (63, .agg #[iV p.ll, iV p.lh, iV p.ul, iV p.uh, .slice p.ea p.es.length p.ec]), (65, .agg #[iV 1, iV 0, iV m, iV mh])], [(b3, aO #[iV 0, iV 0] 23), (b2, aO #[iV m, iV mh] 23), (b1, aO #[iV p.ll, iV p.lh, iV p.ul, iV p.uh, .slice p.ea p.es.length p.ec] 26)]⟩) (acc := [(pA b2, pA b2), (pA b1, pA b1), (pA b3, pA b3)]) (by kernel_rfl) (by kernel_rfl) ⟨rfl, rfl, rfl, trivial⟩ ?_
          refine run_nwl 34 #[.agg #[iV p.ll, iV p.lh, iV p.ul, iV p.uh, .slice p.ea p.es.length p.ec], .agg #[iV 1, iV 0, iV m, iV mh]] (some 66) (α := Nat × Nat × List Value) (fun x => .tuple #[.agg #[iV p.ll, iV p.lh, iV p.ul, iV p.uh, .slice (some ⟨(x.1), 0, none⟩) ((p.es ++ [(1, 0, m, mh)]).length) (x.2.1)], .bool true]) (fun x => [((x.1), cO ((p.es ++ [(1, 0, m, mh)]).flatMap evR ++ (x.2.2)) 55)]) (fun x => p.es.length + 1 ≤ (x.2.1)) (by kernel_rfl) (fun x p hp => by simp only [List.mem_cons, List.not_mem_nil, or_false] at hp; rcases hp with rfl <;> rfl) (fun w1 k1 h1 => (by have h := lwith_any p (1, 0, m, mh) be oe w1 (hp.keep (k1.keeps (fun _ h => h))) hbe (by omega) hne; rw [show decide (p.es.length + 1 ≤ 8) = true from decide_eq_true (by omega), ← hbe] at h; exact h)) (fun x hI4 hn4 => ?_)
          obtain ⟨g4, cap4, sp4⟩ := x
          dsimp only at hI4 hn4
          have hg4 := hn4 _ (List.mem_of_getElem? (i := 0) rfl)
          refine run_auto [] 3 [] [] [3, 6, 7, 9, 10, 11, 12, 13, 67, 68] [0, 1, 2, 3] (st' := ⟨[(3, pA b1), (6, .bool false), (7, iV (p.es.length : Int)), (9, pA b2), (10, iV 0), (11, iV 10), (12, pA b3), (13, iV 10), (67, .agg #[iV p.ll, iV p.lh, iV p.ul, iV p.uh, sV g4 ((p.es ++ [(1, 0, m, mh)]).length) cap4]), (68, .bool true)], [(g4, cO ((p.es ++ [(1, 0, m, mh)]).flatMap evR ++ sp4) 55), (b3, aO #[iV 0, iV 0] 23), (b2, aO #[iV m, iV mh] 23), (b1, aO #[iV p.ll, iV p.lh, iV p.ul, iV p.uh, .slice p.ea p.es.length p.ec] 26)]⟩) (acc := []) (by kernel_rfl) (by kernel_rfl) trivial ?_
          refine run_new (aO #[iV 0, iV 0, iV 0, iV 0, .slice none 0 0] 26) (fun b5 => pA b5) (some 14) (fun _ => by kernel_rfl) (fun b5 hb5 => ?_)
          refine run_auto [] 7 [] [0, 0] [3, 6, 9, 10, 11, 12, 13, 14, 70, 71] [0, 1, 2, 3, 4] (st' := ⟨[(3, pA b1), (6, .bool false), (9, pA b2), (10, iV 0), (11, iV 10), (12, pA b3), (13, iV 10), (14, pA b5), (70, .agg #[iV p.ll, iV p.lh, iV p.ul, iV p.uh, sV g4 ((p.es ++ [(1, 0, m, mh)]).length) cap4]), (71, iV (p.es.length : Int))], [(b5, aO #[iV p.ll, iV p.lh, iV p.ul, iV p.uh, sV g4 ((p.es ++ [(1, 0, m, mh)]).length) cap4] 26), (g4, cO ((p.es ++ [(1, 0, m, mh)]).flatMap evR ++ sp4) 55), (b3, aO #[iV 0, iV 0] 23), (b2, aO #[iV m, iV mh] 23), (b1, aO #[iV p.ll, iV p.lh, iV p.ul, iV p.uh, .slice p.ea p.es.length p.ec] 26)]⟩) (acc := [(pA b5, pA b5), (pA b5, pA b5)]) (by kernel_rfl) (by kernel_rfl) ⟨rfl, rfl, trivial⟩ ?_
          refine run_ret1 14 #[.agg #[iV p.ll, iV p.lh, iV p.ul, iV p.uh, sV g4 ((p.es ++ [(1, 0, m, mh)]).length) cap4], iV (p.es.length : Int)] (some 72) (.tuple #[.agg #[iV 0, iV 0], iV 10]) (by kernel_rfl) (fun w1 k1 h1 => (by have h := After_any (p.add (1, 0, m, mh) (some ⟨g4, 0, none⟩) cap4) (p.es.length : Int) w1 (add_in (sp := sp4) (h1 (g4, cO ((p.es ++ [(1, 0, m, mh)]).flatMap evR ++ sp4) 55) (List.mem_of_getElem? (i := 1) (by kernel_rfl))) (by omega)); rw [show afterR (p.add (1, 0, m, mh) (some ⟨g4, 0, none⟩) cap4) (p.es.length : Int) = .inl 10 from by unfold afterR; rw [add_n, hqok, decide_eq_true (show 0 ≤ (p.es.length : Int) ∧ (p.es.length : Int) < (((p.add (1, 0, m, mh) (some ⟨g4, 0, none⟩) cap4).es.length : Nat) : Int) by show _ ∧ _ < (((p.es ++ [(1, 0, m, mh)]).length : Nat) : Int); rw [List.length_append, List.length_singleton]; omega), show (p.n.add (1, 0, m, mh)).can = false from hqc0]; rfl] at h; exact h)) ?_
          refine run_auto [] 3 [] [] [3, 6, 9, 10, 11, 12, 13, 14, 73, 74] [0, 1, 2, 3, 4] (st' := ⟨[(3, pA b1), (6, .bool false), (9, pA b2), (10, iV 0), (11, iV 10), (12, pA b3), (13, iV 10), (14, pA b5), (73, .agg #[iV 0, iV 0]), (74, iV 10)], [(b5, aO #[iV p.ll, iV p.lh, iV p.ul, iV p.uh, sV g4 ((p.es ++ [(1, 0, m, mh)]).length) cap4] 26), (g4, cO ((p.es ++ [(1, 0, m, mh)]).flatMap evR ++ sp4) 55), (b3, aO #[iV 0, iV 0] 23), (b2, aO #[iV m, iV mh] 23), (b1, aO #[iV p.ll, iV p.lh, iV p.ul, iV p.uh, .slice p.ea p.es.length p.ec] 26)]⟩) (acc := []) (by kernel_rfl) (by kernel_rfl) trivial ?_
          refine run_new (aO #[iV 0, iV 0] 23) (fun b6 => pA b6) (some 16) (fun _ => by kernel_rfl) (fun b6 hb6 => ?_)
          refine run_auto [(77, .bool false), (80, .bool true), (83, .bool false), (87, .bool false), (92, .bool true)] 34 [false, true] [0] [3, 6, 9, 10, 12, 14, 16, 17] [0, 1, 2, 3, 4, 5] (st' := ⟨[(3, pA b1), (6, .bool false), (9, pA b2), (10, iV 0), (12, pA b3), (14, pA b5), (16, pA b6), (17, iV 10)], [(b6, aO #[iV 0, iV 0] 23), (b5, aO #[iV p.ll, iV p.lh, iV p.ul, iV p.uh, sV g4 ((p.es ++ [(1, 0, m, mh)]).length) cap4] 26), (g4, cO ((p.es ++ [(1, 0, m, mh)]).flatMap evR ++ sp4) 55), (b3, aO #[iV 0, iV 0] 23), (b2, aO #[iV m, iV mh] 23), (b1, aO #[iV p.ll, iV p.lh, iV p.ul, iV p.uh, .slice p.ea p.es.length p.ec] 26)]⟩) (acc := [(.bool true, .bool true), (.bool true, .bool true), (.bool false, .bool false), (.bool false, .bool false), (.bool false, .bool false), (.bool true, .bool true), (.bool false, .bool false), (pA b6, pA b6)]) (by kernel_rfl) (by kernel_rfl) ⟨rfl, rfl, rfl, rfl, rfl, rfl, rfl, rfl, trivial⟩ ?_
          refine run_ret1 13 #[] (some 93) (.bool true) (by kernel_rfl) (fun w1 k1 h1 => awake_any w1) ?_
          refine run_auto [] 2 [] [] [3, 6, 9, 10, 12, 14, 16, 17] [0, 1, 2, 3, 4, 5] (st' := ⟨[(3, pA b1), (6, .bool true), (9, pA b2), (10, iV 0), (12, pA b3), (14, pA b5), (16, pA b6), (17, iV 10)], [(b6, aO #[iV 0, iV 0] 23), (b5, aO #[iV p.ll, iV p.lh, iV p.ul, iV p.uh, sV g4 ((p.es ++ [(1, 0, m, mh)]).length) cap4] 26), (g4, cO ((p.es ++ [(1, 0, m, mh)]).flatMap evR ++ sp4) 55), (b3, aO #[iV 0, iV 0] 23), (b2, aO #[iV m, iV mh] 23), (b1, aO #[iV p.ll, iV p.lh, iV p.ul, iV p.uh, .slice p.ea p.es.length p.ec] 26)]⟩) (acc := []) (by kernel_rfl) (by kernel_rfl) trivial ?_
          refine run_end (fn := f8) rfl (Nat.le_refl _) (by kernel_rfl) [] [.bool true] (e := []) (by kernel_rfl) trivial (fun w1 k1 h1 => ?_)
          exact ⟨rfl, k1.keeps (fun _ h => h)⟩
        | true =>
          have hcan := hd4
          have hJ := jud_is hgr
          dsimp only at hJ
          have hKp : (mC p.n p.es.length).1 ≤ (mC p.n p.es.length).2 := mC_poss hF hcan (Nat.le_refl _)
          refine run_ret1 20 #[.agg #[iV p.ll, iV p.lh, iV p.ul, iV p.uh, .slice p.ea p.es.length p.ec], .agg #[iV m, iV mh]] (some 52) (.tuple #[iV gr, iV 0]) (by kernel_rfl) (fun w1 k1 h1 => (by have h := Fits_any p (m, mh) w1 (hp.keep (k1.keeps (fun _ h => h))); rw [show fitsR p (m, mh) = .inr gr from by unfold fitsR; rw [hok, hm1, hd4, hgr]; rfl] at h; exact h)) ?_
          refine run_auto [(58, iV ((p.es.length : Int) - 1))] 11 [] [1] [3, 6, 7, 9, 10, 11, 56, 58] [0, 1] (st' := ⟨[(3, pA b1), (6, .bool false), (7, iV (p.es.length : Int)), (9, pA b2), (10, iV gr), (11, iV 0), (56, .agg #[iV p.ll, iV p.lh, iV p.ul, iV p.uh, .slice p.ea p.es.length p.ec]), (58, iV ((p.es.length : Int) - 1))], [(b2, aO #[iV m, iV mh] 23), (b1, aO #[iV p.ll, iV p.lh, iV p.ul, iV p.uh, .slice p.ea p.es.length p.ec] 26)]⟩) (acc := [(iV (IntKind.i64.wrap ((p.es.length : Int) - 1)), iV ((p.es.length : Int) - 1)), (pA b1, pA b1)]) (by kernel_rfl) (by kernel_rfl) ⟨(wr (by omega) (by omega)), rfl, trivial⟩ ?_
          refine run_ret1 14 #[.agg #[iV p.ll, iV p.lh, iV p.ul, iV p.uh, .slice p.ea p.es.length p.ec], iV ((p.es.length : Int) - 1)] (some 59) (.tuple #[.agg #[iV (mC p.n p.es.length).1, iV (mC p.n p.es.length).2], iV 0]) (by kernel_rfl) (fun w1 k1 h1 => (by have h := After_any p ((p.es.length : Int) - 1) w1 (hp.keep (k1.keeps (fun _ h => h))); rw [show afterR p ((p.es.length : Int) - 1) = .inr (mC p.n p.es.length) from by unfold afterR; rw [hok, decide_eq_true (show 0 ≤ ((p.es.length : Int) - 1) ∧ ((p.es.length : Int) - 1) < (p.es.length : Int) by omega), hd4, show (((p.es.length : Int) - 1)).toNat + 1 = p.es.length by omega]; rfl] at h; exact h)) ?_
          refine run_auto [] 3 [] [] [3, 6, 7, 9, 10, 11, 60, 61] [0, 1] (st' := ⟨[(3, pA b1), (6, .bool false), (7, iV (p.es.length : Int)), (9, pA b2), (10, iV gr), (11, iV 0), (60, .agg #[iV (mC p.n p.es.length).1, iV (mC p.n p.es.length).2]), (61, iV 0)], [(b2, aO #[iV m, iV mh] 23), (b1, aO #[iV p.ll, iV p.lh, iV p.ul, iV p.uh, .slice p.ea p.es.length p.ec] 26)]⟩) (acc := []) (by kernel_rfl) (by kernel_rfl) trivial ?_
          refine run_new (aO #[iV 0, iV 0] 23) (fun b3 => pA b3) (some 12) (fun _ => by kernel_rfl) (fun b3 hb3 => ?_)
          refine run_auto [] 8 [] [0, 2, 1] [3, 6, 7, 9, 10, 11, 12, 13, 63, 65] [0, 1, 2] (st' := ⟨[(3, pA b1), (6, .bool false), (7, iV (p.es.length : Int)), (9, pA b2), (10, iV gr), (11, iV 0), (12, pA b3), (13, iV 0), (63, .agg #[iV p.ll, iV p.lh, iV p.ul, iV p.uh, .slice p.ea p.es.length p.ec]), (65, .agg #[iV 1, iV 0, iV m, iV mh])], [(b3, aO #[iV (mC p.n p.es.length).1, iV (mC p.n p.es.length).2] 23), (b2, aO #[iV m, iV mh] 23), (b1, aO #[iV p.ll, iV p.lh, iV p.ul, iV p.uh, .slice p.ea p.es.length p.ec] 26)]⟩) (acc := [(pA b2, pA b2), (pA b1, pA b1), (pA b3, pA b3)]) (by kernel_rfl) (by kernel_rfl) ⟨rfl, rfl, rfl, trivial⟩ ?_
          refine run_nwl 34 #[.agg #[iV p.ll, iV p.lh, iV p.ul, iV p.uh, .slice p.ea p.es.length p.ec], .agg #[iV 1, iV 0, iV m, iV mh]] (some 66) (α := Nat × Nat × List Value) (fun x => .tuple #[.agg #[iV p.ll, iV p.lh, iV p.ul, iV p.uh, .slice (some ⟨(x.1), 0, none⟩) ((p.es ++ [(1, 0, m, mh)]).length) (x.2.1)], .bool true]) (fun x => [((x.1), cO ((p.es ++ [(1, 0, m, mh)]).flatMap evR ++ (x.2.2)) 55)]) (fun x => p.es.length + 1 ≤ (x.2.1)) (by kernel_rfl) (fun x p hp => by simp only [List.mem_cons, List.not_mem_nil, or_false] at hp; rcases hp with rfl <;> rfl) (fun w1 k1 h1 => (by have h := lwith_any p (1, 0, m, mh) be oe w1 (hp.keep (k1.keeps (fun _ h => h))) hbe (by omega) hne; rw [show decide (p.es.length + 1 ≤ 8) = true from decide_eq_true (by omega), ← hbe] at h; exact h)) (fun x hI4 hn4 => ?_)
          obtain ⟨g4, cap4, sp4⟩ := x
          dsimp only at hI4 hn4
          have hg4 := hn4 _ (List.mem_of_getElem? (i := 0) rfl)
          refine run_auto [] 3 [] [] [3, 6, 7, 9, 10, 11, 12, 13, 67, 68] [0, 1, 2, 3] (st' := ⟨[(3, pA b1), (6, .bool false), (7, iV (p.es.length : Int)), (9, pA b2), (10, iV gr), (11, iV 0), (12, pA b3), (13, iV 0), (67, .agg #[iV p.ll, iV p.lh, iV p.ul, iV p.uh, sV g4 ((p.es ++ [(1, 0, m, mh)]).length) cap4]), (68, .bool true)], [(g4, cO ((p.es ++ [(1, 0, m, mh)]).flatMap evR ++ sp4) 55), (b3, aO #[iV (mC p.n p.es.length).1, iV (mC p.n p.es.length).2] 23), (b2, aO #[iV m, iV mh] 23), (b1, aO #[iV p.ll, iV p.lh, iV p.ul, iV p.uh, .slice p.ea p.es.length p.ec] 26)]⟩) (acc := []) (by kernel_rfl) (by kernel_rfl) trivial ?_
          refine run_new (aO #[iV 0, iV 0, iV 0, iV 0, .slice none 0 0] 26) (fun b5 => pA b5) (some 14) (fun _ => by kernel_rfl) (fun b5 hb5 => ?_)
          refine run_auto [] 7 [] [0, 0] [3, 6, 9, 10, 11, 12, 13, 14, 70, 71] [0, 1, 2, 3, 4] (st' := ⟨[(3, pA b1), (6, .bool false), (9, pA b2), (10, iV gr), (11, iV 0), (12, pA b3), (13, iV 0), (14, pA b5), (70, .agg #[iV p.ll, iV p.lh, iV p.ul, iV p.uh, sV g4 ((p.es ++ [(1, 0, m, mh)]).length) cap4]), (71, iV (p.es.length : Int))], [(b5, aO #[iV p.ll, iV p.lh, iV p.ul, iV p.uh, sV g4 ((p.es ++ [(1, 0, m, mh)]).length) cap4] 26), (g4, cO ((p.es ++ [(1, 0, m, mh)]).flatMap evR ++ sp4) 55), (b3, aO #[iV (mC p.n p.es.length).1, iV (mC p.n p.es.length).2] 23), (b2, aO #[iV m, iV mh] 23), (b1, aO #[iV p.ll, iV p.lh, iV p.ul, iV p.uh, .slice p.ea p.es.length p.ec] 26)]⟩) (acc := [(pA b5, pA b5), (pA b5, pA b5)]) (by kernel_rfl) (by kernel_rfl) ⟨rfl, rfl, trivial⟩ ?_
          cases hd5 : (possS (cutS (mC p.n p.es.length) (m, mh))) with
          | false =>
            have hpc := of_decide_eq_false (show decide _ = false from hd5)
            unfold cutS at hpc
            dsimp only at hpc
            refine run_ret1 14 #[.agg #[iV p.ll, iV p.lh, iV p.ul, iV p.uh, sV g4 ((p.es ++ [(1, 0, m, mh)]).length) cap4], iV (p.es.length : Int)] (some 72) (.tuple #[.agg #[iV 0, iV 0], iV 10]) (by kernel_rfl) (fun w1 k1 h1 => (by have h := After_any (p.add (1, 0, m, mh) (some ⟨g4, 0, none⟩) cap4) (p.es.length : Int) w1 (add_in (sp := sp4) (h1 (g4, cO ((p.es ++ [(1, 0, m, mh)]).flatMap evR ++ sp4) 55) (List.mem_of_getElem? (i := 1) (by kernel_rfl))) (by omega)); rw [show afterR (p.add (1, 0, m, mh) (some ⟨g4, 0, none⟩) cap4) (p.es.length : Int) = .inl 10 from by unfold afterR; rw [add_n, hqok, decide_eq_true (show 0 ≤ (p.es.length : Int) ∧ (p.es.length : Int) < (((p.add (1, 0, m, mh) (some ⟨g4, 0, none⟩) cap4).es.length : Nat) : Int) by show _ ∧ _ < (((p.es ++ [(1, 0, m, mh)]).length : Nat) : Int); rw [List.length_append, List.length_singleton]; omega), show (p.n.add (1, 0, m, mh)).can = false from hqc.trans hd5]; rfl] at h; exact h)) ?_
            refine run_auto [] 3 [] [] [3, 6, 9, 10, 11, 12, 13, 14, 73, 74] [0, 1, 2, 3, 4] (st' := ⟨[(3, pA b1), (6, .bool false), (9, pA b2), (10, iV gr), (11, iV 0), (12, pA b3), (13, iV 0), (14, pA b5), (73, .agg #[iV 0, iV 0]), (74, iV 10)], [(b5, aO #[iV p.ll, iV p.lh, iV p.ul, iV p.uh, sV g4 ((p.es ++ [(1, 0, m, mh)]).length) cap4] 26), (g4, cO ((p.es ++ [(1, 0, m, mh)]).flatMap evR ++ sp4) 55), (b3, aO #[iV (mC p.n p.es.length).1, iV (mC p.n p.es.length).2] 23), (b2, aO #[iV m, iV mh] 23), (b1, aO #[iV p.ll, iV p.lh, iV p.ul, iV p.uh, .slice p.ea p.es.length p.ec] 26)]⟩) (acc := []) (by kernel_rfl) (by kernel_rfl) trivial ?_
            refine run_new (aO #[iV 0, iV 0] 23) (fun b6 => pA b6) (some 16) (fun _ => by kernel_rfl) (fun b6 hb6 => ?_)
            refine run_auto [(77, .bool false), (80, .bool false), (92, .bool false), (98, iV (max (mC p.n p.es.length).1 m)), (103, iV (min (mC p.n p.es.length).2 mh))] 45 [false, false] [0, 3, 4, 3, 4] [3, 6, 10, 12, 14, 16, 17, 98, 103] [0, 1, 2, 3, 5] (st' := ⟨[(3, pA b1), (6, .bool false), (10, iV gr), (12, pA b3), (14, pA b5), (16, pA b6), (17, iV 10), (98, iV (max (mC p.n p.es.length).1 m)), (103, iV (min (mC p.n p.es.length).2 mh))], [(b6, aO #[iV 0, iV 0] 23), (b5, aO #[iV p.ll, iV p.lh, iV p.ul, iV p.uh, sV g4 ((p.es ++ [(1, 0, m, mh)]).length) cap4] 26), (g4, cO ((p.es ++ [(1, 0, m, mh)]).flatMap evR ++ sp4) 55), (b3, aO #[iV (mC p.n p.es.length).1, iV (mC p.n p.es.length).2] 23), (b1, aO #[iV p.ll, iV p.lh, iV p.ul, iV p.uh, .slice p.ea p.es.length p.ec] 26)]⟩) (acc := [(iV (if mh < (mC p.n p.es.length).2 then mh else (mC p.n p.es.length).2), iV (min (mC p.n p.es.length).2 mh)), (pA b2, pA b2), (pA b3, pA b3), (iV (if m > (mC p.n p.es.length).1 then m else (mC p.n p.es.length).1), iV (max (mC p.n p.es.length).1 m)), (pA b2, pA b2), (pA b3, pA b3), (.bool false, .bool false), (.bool false, .bool false), (.bool false, .bool false), (.bool false, .bool false), (.bool false, .bool false), (pA b6, pA b6)]) (by kernel_rfl) (by kernel_rfl) ⟨(mn _ _ _), rfl, rfl, (mx _ _ _), rfl, rfl, rfl, rfl, rfl, rfl, rfl, rfl, trivial⟩ ?_
            refine run_ret1 32 #[iV (max (mC p.n p.es.length).1 m), iV (min (mC p.n p.es.length).2 mh)] (some 104) (.agg #[iV (max (mC p.n p.es.length).1 m), iV (min (mC p.n p.es.length).2 mh)]) (by kernel_rfl) (fun w1 k1 h1 => span_any (max (mC p.n p.es.length).1 m) (min (mC p.n p.es.length).2 mh) w1) ?_
            refine run_new (aO #[iV 0, iV 0] 23) (fun b7 => pA b7) (some 18) (fun _ => by kernel_rfl) (fun b7 hb7 => ?_)
            cases hd6 : (gr == 2) with
            | false =>
              have hp6 : ¬ gr = 2 := by simpa using hd6
              cases hd7 : (gr == 0) with
              | false =>
                have hp7 : ¬ gr = 0 := by simpa using hd7
                cases hd8 : (gr == 1) with
                | false =>
                  have hp8 : ¬ gr = 1 := by simpa using hd8
                  refine run_auto [(107, .bool false), (147, .bool false), (161, .bool false)] 32 [false, false, false] [0] [6] [] (st' := ⟨[(6, .bool false)], []⟩) (acc := [(.bool false, .bool false), (.bool (gr == 1), .bool false), (.bool false, .bool false), (.bool (gr == 0), .bool false), (.bool false, .bool false), (.bool (gr == 2), .bool false), (pA b7, pA b7)]) (by kernel_rfl) (by kernel_rfl) ⟨rfl, (bo hd8), rfl, (bo hd7), rfl, (bo hd6), rfl, trivial⟩ ?_
                  refine run_end (fn := f8) rfl (Nat.le_refl _) (by kernel_rfl) [] [.bool false] (e := []) (by kernel_rfl) trivial (fun w1 k1 h1 => ?_)
                  exfalso
                  omega
                | true =>
                  have hp8 : gr = 1 := by simpa using hd8
                  cases hd9 : (decide ((max (mC p.n p.es.length).1 m) ≤ (min (mC p.n p.es.length).2 mh))) with
                  | false =>
                    have hp9 := of_decide_eq_false hd9
                    refine run_auto [(107, .bool false), (147, .bool false), (161, .bool true), (166, .bool false)] 52 [false, false, true] [0, 0, 0] [6] [] (st' := ⟨[(6, .bool false)], []⟩) (acc := [(.bool (decide ((max (mC p.n p.es.length).1 m) ≤ (min (mC p.n p.es.length).2 mh))), .bool false), (pA b7, pA b7), (pA b7, pA b7), (.bool true, .bool true), (.bool (gr == 1), .bool true), (.bool false, .bool false), (.bool (gr == 0), .bool false), (.bool false, .bool false), (.bool (gr == 2), .bool false), (pA b7, pA b7)]) (by kernel_rfl) (by kernel_rfl) ⟨(bo hd9), rfl, rfl, rfl, (bo hd8), rfl, (bo hd7), rfl, (bo hd6), rfl, trivial⟩ ?_
                    refine run_end (fn := f8) rfl (Nat.le_refl _) (by kernel_rfl) [] [.bool false] (e := []) (by kernel_rfl) trivial (fun w1 k1 h1 => ?_)
                    exfalso
                    omega
                  | true =>
                    have hp9 := of_decide_eq_true hd9
                    refine run_auto [(107, .bool false), (147, .bool false), (161, .bool true), (166, .bool true)] 36 [false, false, true] [0, 0, 0, 0, 4] [6, 16, 17, 18, 167, 168, 169] [0, 1] (st' := ⟨[(6, .bool false), (16, pA b6), (17, iV 10), (18, pA b7), (167, .bool true), (168, .agg #[iV (max (mC p.n p.es.length).1 m), iV (min (mC p.n p.es.length).2 mh)]), (169, .agg #[iV (mC p.n p.es.length).1, iV (mC p.n p.es.length).2])], [(b7, aO #[iV (max (mC p.n p.es.length).1 m), iV (min (mC p.n p.es.length).2 mh)] 23), (b6, aO #[iV 0, iV 0] 23)]⟩) (acc := [(pA b3, pA b3), (pA b7, pA b7), (.bool (decide ((max (mC p.n p.es.length).1 m) ≤ (min (mC p.n p.es.length).2 mh))), .bool true), (pA b7, pA b7), (pA b7, pA b7), (.bool true, .bool true), (.bool (gr == 1), .bool true), (.bool false, .bool false), (.bool (gr == 0), .bool false), (.bool false, .bool false), (.bool (gr == 2), .bool false), (pA b7, pA b7)]) (by kernel_rfl) (by kernel_rfl) ⟨rfl, rfl, (bo hd9), rfl, rfl, rfl, (bo hd8), rfl, (bo hd7), rfl, (bo hd6), rfl, trivial⟩ ?_
                    cases hd10 : ((max (mC p.n p.es.length).1 m) == (mC p.n p.es.length).1 && (min (mC p.n p.es.length).2 mh) == (mC p.n p.es.length).2) with
                    | false =>
                      have hshd10 := hd10
                      simp only [Bool.and_eq_false_iff, beq_eq_false_iff_ne, ne_eq] at hshd10
                      refine run_v ((do eqGuard .neq 23 (.tmp 168) (.tmp 169) (.agg #[iV (max (mC p.n p.es.length).1 m), iV (min (mC p.n p.es.length).2 mh)]) (.agg #[iV (mC p.n p.es.length).1, iV (mC p.n p.es.length).2]); binOp .neq 23 (.agg #[iV (max (mC p.n p.es.length).1 m), iV (min (mC p.n p.es.length).2 mh)]) (.agg #[iV (mC p.n p.es.length).1, iV (mC p.n p.es.length).2])) >>= fun v => pure (Next.value v)) (some 170) (.bool true) (by kernel_rfl) (fun w1 k1 h1 => (by have h := eq_span_ne (.tmp 168) (.tmp 169) (max (mC p.n p.es.length).1 m) (min (mC p.n p.es.length).2 mh) (mC p.n p.es.length).1 (mC p.n p.es.length).2 w1; rw [hd10] at h; exact h)) ?_
                      refine run_auto [(174, .bool false)] 15 [] [] [6] [] (st' := ⟨[(6, .bool false)], []⟩) (acc := [(.bool false, .bool false)]) (by kernel_rfl) (by kernel_rfl) ⟨rfl, trivial⟩ ?_
                      refine run_end (fn := f8) rfl (Nat.le_refl _) (by kernel_rfl) [] [.bool false] (e := []) (by kernel_rfl) trivial (fun w1 k1 h1 => ?_)
                      exfalso
                      omega
                    | true =>
                      have hshd10 := hd10
                      simp only [Bool.and_eq_true, beq_iff_eq] at hshd10
                      refine run_v ((do eqGuard .neq 23 (.tmp 168) (.tmp 169) (.agg #[iV (max (mC p.n p.es.length).1 m), iV (min (mC p.n p.es.length).2 mh)]) (.agg #[iV (mC p.n p.es.length).1, iV (mC p.n p.es.length).2]); binOp .neq 23 (.agg #[iV (max (mC p.n p.es.length).1 m), iV (min (mC p.n p.es.length).2 mh)]) (.agg #[iV (mC p.n p.es.length).1, iV (mC p.n p.es.length).2])) >>= fun v => pure (Next.value v)) (some 170) (.bool false) (by kernel_rfl) (fun w1 k1 h1 => (by have h := eq_span_ne (.tmp 168) (.tmp 169) (max (mC p.n p.es.length).1 m) (min (mC p.n p.es.length).2 mh) (mC p.n p.es.length).1 (mC p.n p.es.length).2 w1; rw [hd10] at h; exact h)) ?_
                      refine run_auto [] 15 [] [] [6] [] (st' := ⟨[(6, .bool false)], []⟩) (acc := []) (by kernel_rfl) (by kernel_rfl) trivial ?_
                      refine run_end (fn := f8) rfl (Nat.le_refl _) (by kernel_rfl) [] [.bool false] (e := []) (by kernel_rfl) trivial (fun w1 k1 h1 => ?_)
                      exfalso
                      omega
              | true =>
                have hp7 : gr = 0 := by simpa using hd7
                cases hd8 : (decide ((min (mC p.n p.es.length).2 mh) < (max (mC p.n p.es.length).1 m))) with
                | false =>
                  have hp8 := of_decide_eq_false hd8
                  refine run_auto [(107, .bool false), (147, .bool true), (152, .bool false)] 36 [false, true] [0, 0, 0] [6] [] (st' := ⟨[(6, .bool false)], []⟩) (acc := [(.bool (decide ((min (mC p.n p.es.length).2 mh) < (max (mC p.n p.es.length).1 m))), .bool false), (pA b7, pA b7), (pA b7, pA b7), (.bool true, .bool true), (.bool (gr == 0), .bool true), (.bool false, .bool false), (.bool (gr == 2), .bool false), (pA b7, pA b7)]) (by kernel_rfl) (by kernel_rfl) ⟨(bo hd8), rfl, rfl, rfl, (bo hd7), rfl, (bo hd6), rfl, trivial⟩ ?_
                  refine run_end (fn := f8) rfl (Nat.le_refl _) (by kernel_rfl) [] [.bool false] (e := []) (by kernel_rfl) trivial (fun w1 k1 h1 => ?_)
                  exfalso
                  omega
                | true =>
                  have hp8 := of_decide_eq_true hd8
                  refine run_auto [(107, .bool false), (147, .bool true), (152, .bool true), (155, .bool true)] 32 [false, true] [0, 0, 0] [6, 157] [] (st' := ⟨[(6, .bool false), (157, .bool true)], []⟩) (acc := [(.bool true, .bool true), (.bool (decide ((min (mC p.n p.es.length).2 mh) < (max (mC p.n p.es.length).1 m))), .bool true), (pA b7, pA b7), (pA b7, pA b7), (.bool true, .bool true), (.bool (gr == 0), .bool true), (.bool false, .bool false), (.bool (gr == 2), .bool false), (pA b7, pA b7)]) (by kernel_rfl) (by kernel_rfl) ⟨rfl, (bo hd8), rfl, rfl, rfl, (bo hd7), rfl, (bo hd6), rfl, trivial⟩ ?_
                  refine run_ret1 13 #[] (some 158) (.bool true) (by kernel_rfl) (fun w1 k1 h1 => awake_any w1) ?_
                  refine run_auto [] 3 [] [] [6] [] (st' := ⟨[(6, .bool true)], []⟩) (acc := []) (by kernel_rfl) (by kernel_rfl) trivial ?_
                  refine run_end (fn := f8) rfl (Nat.le_refl _) (by kernel_rfl) [] [.bool true] (e := []) (by kernel_rfl) trivial (fun w1 k1 h1 => ?_)
                  exact ⟨rfl, k1.keeps (fun _ h => h)⟩
            | true =>
              have hp6 : gr = 2 := by simpa using hd6
              have hg2 : gr = 2 := by have := hd6; simpa using this
              have hal : m ≤ (p.n.B p.n.es.length).1 ∧ (p.n.B p.n.es.length).2 ≤ mh := by rw [show p.n.B p.n.es.length = (mC p.n p.es.length) from (mC_le _ (Nat.le_refl _)).symm]; omega
              exfalso
              omega
          | true =>
            have hpc := of_decide_eq_true (show decide _ = true from hd5)
            unfold cutS at hpc
            dsimp only at hpc
            refine run_ret1 14 #[.agg #[iV p.ll, iV p.lh, iV p.ul, iV p.uh, sV g4 ((p.es ++ [(1, 0, m, mh)]).length) cap4], iV (p.es.length : Int)] (some 72) (.tuple #[.agg #[iV (max (mC p.n p.es.length).1 m), iV (min (mC p.n p.es.length).2 mh)], iV 0]) (by kernel_rfl) (fun w1 k1 h1 => (by have h := After_any (p.add (1, 0, m, mh) (some ⟨g4, 0, none⟩) cap4) (p.es.length : Int) w1 (add_in (sp := sp4) (h1 (g4, cO ((p.es ++ [(1, 0, m, mh)]).flatMap evR ++ sp4) 55) (List.mem_of_getElem? (i := 1) (by kernel_rfl))) (by omega)); rw [show afterR (p.add (1, 0, m, mh) (some ⟨g4, 0, none⟩) cap4) (p.es.length : Int) = .inr (cutS (mC p.n p.es.length) (m, mh)) from by unfold afterR; rw [add_n, hqok, decide_eq_true (show 0 ≤ (p.es.length : Int) ∧ (p.es.length : Int) < (((p.add (1, 0, m, mh) (some ⟨g4, 0, none⟩) cap4).es.length : Nat) : Int) by show _ ∧ _ < (((p.es ++ [(1, 0, m, mh)]).length : Nat) : Int); rw [List.length_append, List.length_singleton]; omega), show (p.n.add (1, 0, m, mh)).can = true from hqc.trans hd5, Int.toNat_natCast, show mC (p.n.add (1, 0, m, mh)) (p.es.length + 1) = cutS (mC p.n p.es.length) (m, mh) from mC_add rfl]; rfl] at h; exact h)) ?_
            refine run_auto [] 3 [] [] [3, 6, 9, 10, 11, 12, 13, 14, 73, 74] [0, 1, 2, 3, 4] (st' := ⟨[(3, pA b1), (6, .bool false), (9, pA b2), (10, iV gr), (11, iV 0), (12, pA b3), (13, iV 0), (14, pA b5), (73, .agg #[iV (max (mC p.n p.es.length).1 m), iV (min (mC p.n p.es.length).2 mh)]), (74, iV 0)], [(b5, aO #[iV p.ll, iV p.lh, iV p.ul, iV p.uh, sV g4 ((p.es ++ [(1, 0, m, mh)]).length) cap4] 26), (g4, cO ((p.es ++ [(1, 0, m, mh)]).flatMap evR ++ sp4) 55), (b3, aO #[iV (mC p.n p.es.length).1, iV (mC p.n p.es.length).2] 23), (b2, aO #[iV m, iV mh] 23), (b1, aO #[iV p.ll, iV p.lh, iV p.ul, iV p.uh, .slice p.ea p.es.length p.ec] 26)]⟩) (acc := []) (by kernel_rfl) (by kernel_rfl) trivial ?_
            refine run_new (aO #[iV 0, iV 0] 23) (fun b6 => pA b6) (some 16) (fun _ => by kernel_rfl) (fun b6 hb6 => ?_)
            refine run_auto [(77, .bool false), (80, .bool false), (92, .bool false), (98, iV (max (mC p.n p.es.length).1 m)), (103, iV (min (mC p.n p.es.length).2 mh))] 45 [false, false] [0, 3, 4, 3, 4] [3, 6, 10, 12, 14, 16, 17, 98, 103] [0, 1, 2, 3, 5] (st' := ⟨[(3, pA b1), (6, .bool false), (10, iV gr), (12, pA b3), (14, pA b5), (16, pA b6), (17, iV 0), (98, iV (max (mC p.n p.es.length).1 m)), (103, iV (min (mC p.n p.es.length).2 mh))], [(b6, aO #[iV (max (mC p.n p.es.length).1 m), iV (min (mC p.n p.es.length).2 mh)] 23), (b5, aO #[iV p.ll, iV p.lh, iV p.ul, iV p.uh, sV g4 ((p.es ++ [(1, 0, m, mh)]).length) cap4] 26), (g4, cO ((p.es ++ [(1, 0, m, mh)]).flatMap evR ++ sp4) 55), (b3, aO #[iV (mC p.n p.es.length).1, iV (mC p.n p.es.length).2] 23), (b1, aO #[iV p.ll, iV p.lh, iV p.ul, iV p.uh, .slice p.ea p.es.length p.ec] 26)]⟩) (acc := [(iV (if mh < (mC p.n p.es.length).2 then mh else (mC p.n p.es.length).2), iV (min (mC p.n p.es.length).2 mh)), (pA b2, pA b2), (pA b3, pA b3), (iV (if m > (mC p.n p.es.length).1 then m else (mC p.n p.es.length).1), iV (max (mC p.n p.es.length).1 m)), (pA b2, pA b2), (pA b3, pA b3), (.bool false, .bool false), (.bool false, .bool false), (.bool false, .bool false), (.bool false, .bool false), (.bool false, .bool false), (pA b6, pA b6)]) (by kernel_rfl) (by kernel_rfl) ⟨(mn _ _ _), rfl, rfl, (mx _ _ _), rfl, rfl, rfl, rfl, rfl, rfl, rfl, rfl, trivial⟩ ?_
            refine run_ret1 32 #[iV (max (mC p.n p.es.length).1 m), iV (min (mC p.n p.es.length).2 mh)] (some 104) (.agg #[iV (max (mC p.n p.es.length).1 m), iV (min (mC p.n p.es.length).2 mh)]) (by kernel_rfl) (fun w1 k1 h1 => span_any (max (mC p.n p.es.length).1 m) (min (mC p.n p.es.length).2 mh) w1) ?_
            refine run_new (aO #[iV 0, iV 0] 23) (fun b7 => pA b7) (some 18) (fun _ => by kernel_rfl) (fun b7 hb7 => ?_)
            cases hd6 : (gr == 2) with
            | false =>
              have hp6 : ¬ gr = 2 := by simpa using hd6
              cases hd7 : (gr == 0) with
              | false =>
                have hp7 : ¬ gr = 0 := by simpa using hd7
                cases hd8 : (gr == 1) with
                | false =>
                  have hp8 : ¬ gr = 1 := by simpa using hd8
                  refine run_auto [(107, .bool false), (147, .bool false), (161, .bool false)] 32 [false, false, false] [0] [6] [] (st' := ⟨[(6, .bool false)], []⟩) (acc := [(.bool false, .bool false), (.bool (gr == 1), .bool false), (.bool false, .bool false), (.bool (gr == 0), .bool false), (.bool false, .bool false), (.bool (gr == 2), .bool false), (pA b7, pA b7)]) (by kernel_rfl) (by kernel_rfl) ⟨rfl, (bo hd8), rfl, (bo hd7), rfl, (bo hd6), rfl, trivial⟩ ?_
                  refine run_end (fn := f8) rfl (Nat.le_refl _) (by kernel_rfl) [] [.bool false] (e := []) (by kernel_rfl) trivial (fun w1 k1 h1 => ?_)
                  exfalso
                  omega
                | true =>
                  have hp8 : gr = 1 := by simpa using hd8
                  cases hd9 : (decide ((max (mC p.n p.es.length).1 m) ≤ (min (mC p.n p.es.length).2 mh))) with
                  | false =>
                    have hp9 := of_decide_eq_false hd9
                    refine run_auto [(107, .bool false), (147, .bool false), (161, .bool true), (166, .bool false)] 52 [false, false, true] [0, 0, 0] [6] [] (st' := ⟨[(6, .bool false)], []⟩) (acc := [(.bool (decide ((max (mC p.n p.es.length).1 m) ≤ (min (mC p.n p.es.length).2 mh))), .bool false), (pA b7, pA b7), (pA b7, pA b7), (.bool true, .bool true), (.bool (gr == 1), .bool true), (.bool false, .bool false), (.bool (gr == 0), .bool false), (.bool false, .bool false), (.bool (gr == 2), .bool false), (pA b7, pA b7)]) (by kernel_rfl) (by kernel_rfl) ⟨(bo hd9), rfl, rfl, rfl, (bo hd8), rfl, (bo hd7), rfl, (bo hd6), rfl, trivial⟩ ?_
                    refine run_end (fn := f8) rfl (Nat.le_refl _) (by kernel_rfl) [] [.bool false] (e := []) (by kernel_rfl) trivial (fun w1 k1 h1 => ?_)
                    exfalso
                    omega
                  | true =>
                    have hp9 := of_decide_eq_true hd9
                    refine run_auto [(107, .bool false), (147, .bool false), (161, .bool true), (166, .bool true)] 36 [false, false, true] [0, 0, 0, 0, 4] [6, 16, 17, 18, 167, 168, 169] [0, 1] (st' := ⟨[(6, .bool false), (16, pA b6), (17, iV 0), (18, pA b7), (167, .bool true), (168, .agg #[iV (max (mC p.n p.es.length).1 m), iV (min (mC p.n p.es.length).2 mh)]), (169, .agg #[iV (mC p.n p.es.length).1, iV (mC p.n p.es.length).2])], [(b7, aO #[iV (max (mC p.n p.es.length).1 m), iV (min (mC p.n p.es.length).2 mh)] 23), (b6, aO #[iV (max (mC p.n p.es.length).1 m), iV (min (mC p.n p.es.length).2 mh)] 23)]⟩) (acc := [(pA b3, pA b3), (pA b7, pA b7), (.bool (decide ((max (mC p.n p.es.length).1 m) ≤ (min (mC p.n p.es.length).2 mh))), .bool true), (pA b7, pA b7), (pA b7, pA b7), (.bool true, .bool true), (.bool (gr == 1), .bool true), (.bool false, .bool false), (.bool (gr == 0), .bool false), (.bool false, .bool false), (.bool (gr == 2), .bool false), (pA b7, pA b7)]) (by kernel_rfl) (by kernel_rfl) ⟨rfl, rfl, (bo hd9), rfl, rfl, rfl, (bo hd8), rfl, (bo hd7), rfl, (bo hd6), rfl, trivial⟩ ?_
                    cases hd10 : ((max (mC p.n p.es.length).1 m) == (mC p.n p.es.length).1 && (min (mC p.n p.es.length).2 mh) == (mC p.n p.es.length).2) with
                    | false =>
                      have hshd10 := hd10
                      simp only [Bool.and_eq_false_iff, beq_eq_false_iff_ne, ne_eq] at hshd10
                      refine run_v ((do eqGuard .neq 23 (.tmp 168) (.tmp 169) (.agg #[iV (max (mC p.n p.es.length).1 m), iV (min (mC p.n p.es.length).2 mh)]) (.agg #[iV (mC p.n p.es.length).1, iV (mC p.n p.es.length).2]); binOp .neq 23 (.agg #[iV (max (mC p.n p.es.length).1 m), iV (min (mC p.n p.es.length).2 mh)]) (.agg #[iV (mC p.n p.es.length).1, iV (mC p.n p.es.length).2])) >>= fun v => pure (Next.value v)) (some 170) (.bool true) (by kernel_rfl) (fun w1 k1 h1 => (by have h := eq_span_ne (.tmp 168) (.tmp 169) (max (mC p.n p.es.length).1 m) (min (mC p.n p.es.length).2 mh) (mC p.n p.es.length).1 (mC p.n p.es.length).2 w1; rw [hd10] at h; exact h)) ?_
                      refine run_auto [(174, .bool true)] 8 [] [1, 0] [6, 176, 177, 178] [] (st' := ⟨[(6, .bool false), (176, .bool true), (177, .agg #[iV (max (mC p.n p.es.length).1 m), iV (min (mC p.n p.es.length).2 mh)]), (178, .agg #[iV (max (mC p.n p.es.length).1 m), iV (min (mC p.n p.es.length).2 mh)])], []⟩) (acc := [(pA b7, pA b7), (pA b6, pA b6), (.bool true, .bool true)]) (by kernel_rfl) (by kernel_rfl) ⟨rfl, rfl, rfl, trivial⟩ ?_
                      refine run_v ((do eqGuard .eql 23 (.tmp 177) (.tmp 178) (.agg #[iV (max (mC p.n p.es.length).1 m), iV (min (mC p.n p.es.length).2 mh)]) (.agg #[iV (max (mC p.n p.es.length).1 m), iV (min (mC p.n p.es.length).2 mh)]); binOp .eql 23 (.agg #[iV (max (mC p.n p.es.length).1 m), iV (min (mC p.n p.es.length).2 mh)]) (.agg #[iV (max (mC p.n p.es.length).1 m), iV (min (mC p.n p.es.length).2 mh)])) >>= fun v => pure (Next.value v)) (some 179) (.bool true) (by kernel_rfl) (fun w1 k1 h1 => (by have h := eq_span (.tmp 177) (.tmp 178) (max (mC p.n p.es.length).1 m) (min (mC p.n p.es.length).2 mh) (max (mC p.n p.es.length).1 m) (min (mC p.n p.es.length).2 mh) w1; rw [show ((max (mC p.n p.es.length).1 m) == (max (mC p.n p.es.length).1 m) && (min (mC p.n p.es.length).2 mh) == (min (mC p.n p.es.length).2 mh)) = true from by simp] at h; exact h)) ?_
                      refine run_auto [] 2 [] [] [6, 181] [] (st' := ⟨[(6, .bool false), (181, .bool true)], []⟩) (acc := []) (by kernel_rfl) (by kernel_rfl) trivial ?_
                      refine run_ret1 13 #[] (some 182) (.bool true) (by kernel_rfl) (fun w1 k1 h1 => awake_any w1) ?_
                      refine run_auto [] 3 [] [] [6] [] (st' := ⟨[(6, .bool true)], []⟩) (acc := []) (by kernel_rfl) (by kernel_rfl) trivial ?_
                      refine run_end (fn := f8) rfl (Nat.le_refl _) (by kernel_rfl) [] [.bool true] (e := []) (by kernel_rfl) trivial (fun w1 k1 h1 => ?_)
                      exact ⟨rfl, k1.keeps (fun _ h => h)⟩
                    | true =>
                      have hshd10 := hd10
                      simp only [Bool.and_eq_true, beq_iff_eq] at hshd10
                      refine run_v ((do eqGuard .neq 23 (.tmp 168) (.tmp 169) (.agg #[iV (max (mC p.n p.es.length).1 m), iV (min (mC p.n p.es.length).2 mh)]) (.agg #[iV (mC p.n p.es.length).1, iV (mC p.n p.es.length).2]); binOp .neq 23 (.agg #[iV (max (mC p.n p.es.length).1 m), iV (min (mC p.n p.es.length).2 mh)]) (.agg #[iV (mC p.n p.es.length).1, iV (mC p.n p.es.length).2])) >>= fun v => pure (Next.value v)) (some 170) (.bool false) (by kernel_rfl) (fun w1 k1 h1 => (by have h := eq_span_ne (.tmp 168) (.tmp 169) (max (mC p.n p.es.length).1 m) (min (mC p.n p.es.length).2 mh) (mC p.n p.es.length).1 (mC p.n p.es.length).2 w1; rw [hd10] at h; exact h)) ?_
                      refine run_auto [] 15 [] [] [6] [] (st' := ⟨[(6, .bool false)], []⟩) (acc := []) (by kernel_rfl) (by kernel_rfl) trivial ?_
                      refine run_end (fn := f8) rfl (Nat.le_refl _) (by kernel_rfl) [] [.bool false] (e := []) (by kernel_rfl) trivial (fun w1 k1 h1 => ?_)
                      exfalso
                      omega
              | true =>
                have hp7 : gr = 0 := by simpa using hd7
                cases hd8 : (decide ((min (mC p.n p.es.length).2 mh) < (max (mC p.n p.es.length).1 m))) with
                | false =>
                  have hp8 := of_decide_eq_false hd8
                  refine run_auto [(107, .bool false), (147, .bool true), (152, .bool false)] 36 [false, true] [0, 0, 0] [6] [] (st' := ⟨[(6, .bool false)], []⟩) (acc := [(.bool (decide ((min (mC p.n p.es.length).2 mh) < (max (mC p.n p.es.length).1 m))), .bool false), (pA b7, pA b7), (pA b7, pA b7), (.bool true, .bool true), (.bool (gr == 0), .bool true), (.bool false, .bool false), (.bool (gr == 2), .bool false), (pA b7, pA b7)]) (by kernel_rfl) (by kernel_rfl) ⟨(bo hd8), rfl, rfl, rfl, (bo hd7), rfl, (bo hd6), rfl, trivial⟩ ?_
                  refine run_end (fn := f8) rfl (Nat.le_refl _) (by kernel_rfl) [] [.bool false] (e := []) (by kernel_rfl) trivial (fun w1 k1 h1 => ?_)
                  exfalso
                  omega
                | true =>
                  have hp8 := of_decide_eq_true hd8
                  refine run_auto [(107, .bool false), (147, .bool true), (152, .bool true), (155, .bool false)] 36 [false, true] [0, 0, 0] [6] [] (st' := ⟨[(6, .bool false)], []⟩) (acc := [(.bool false, .bool false), (.bool (decide ((min (mC p.n p.es.length).2 mh) < (max (mC p.n p.es.length).1 m))), .bool true), (pA b7, pA b7), (pA b7, pA b7), (.bool true, .bool true), (.bool (gr == 0), .bool true), (.bool false, .bool false), (.bool (gr == 2), .bool false), (pA b7, pA b7)]) (by kernel_rfl) (by kernel_rfl) ⟨rfl, (bo hd8), rfl, rfl, rfl, (bo hd7), rfl, (bo hd6), rfl, trivial⟩ ?_
                  refine run_end (fn := f8) rfl (Nat.le_refl _) (by kernel_rfl) [] [.bool false] (e := []) (by kernel_rfl) trivial (fun w1 k1 h1 => ?_)
                  exfalso
                  omega
            | true =>
              have hp6 : gr = 2 := by simpa using hd6
              have hg2 : gr = 2 := by have := hd6; simpa using this
              have hal : m ≤ (p.n.B p.n.es.length).1 ∧ (p.n.B p.n.es.length).2 ≤ mh := by rw [show p.n.B p.n.es.length = (mC p.n p.es.length) from (mC_le _ (Nat.le_refl _)).symm]; omega
              refine run_auto [(107, .bool true)] 17 [true] [0, 5] [6, 12, 14, 16, 17, 18, 109] [0, 1, 2, 3, 4] (st' := ⟨[(6, .bool false), (12, pA b3), (14, pA b5), (16, pA b6), (17, iV 0), (18, pA b7), (109, .agg #[iV p.ll, iV p.lh, iV p.ul, iV p.uh, .slice p.ea p.es.length p.ec])], [(b7, aO #[iV (max (mC p.n p.es.length).1 m), iV (min (mC p.n p.es.length).2 mh)] 23), (b6, aO #[iV (max (mC p.n p.es.length).1 m), iV (min (mC p.n p.es.length).2 mh)] 23), (b5, aO #[iV p.ll, iV p.lh, iV p.ul, iV p.uh, sV g4 ((p.es ++ [(1, 0, m, mh)]).length) cap4] 26), (g4, cO ((p.es ++ [(1, 0, m, mh)]).flatMap evR ++ sp4) 55), (b3, aO #[iV (mC p.n p.es.length).1, iV (mC p.n p.es.length).2] 23)]⟩) (acc := [(pA b1, pA b1), (.bool true, .bool true), (.bool (gr == 2), .bool true), (pA b7, pA b7)]) (by kernel_rfl) (by kernel_rfl) ⟨rfl, rfl, (bo hd6), rfl, trivial⟩ ?_
              refine run_ret1 16 #[.agg #[iV p.ll, iV p.lh, iV p.ul, iV p.uh, .slice p.ea p.es.length p.ec]] (some 110) (.tuple #[.agg #[iV p.n.lost.1, iV p.n.lost.2], iV 0]) (by kernel_rfl) (fun w1 k1 h1 => (by have h := Lost_any p w1 (hp.keep (k1.keeps (fun _ h => h))); rw [show lostR p = .inr p.n.lost from by unfold lostR; rw [hok, hcan]; rfl] at h; exact h)) ?_
              refine run_auto [] 3 [] [] [6, 12, 14, 16, 17, 18, 111, 112] [0, 1, 2, 3, 4] (st' := ⟨[(6, .bool false), (12, pA b3), (14, pA b5), (16, pA b6), (17, iV 0), (18, pA b7), (111, .agg #[iV p.n.lost.1, iV p.n.lost.2]), (112, iV 0)], [(b7, aO #[iV (max (mC p.n p.es.length).1 m), iV (min (mC p.n p.es.length).2 mh)] 23), (b6, aO #[iV (max (mC p.n p.es.length).1 m), iV (min (mC p.n p.es.length).2 mh)] 23), (b5, aO #[iV p.ll, iV p.lh, iV p.ul, iV p.uh, sV g4 ((p.es ++ [(1, 0, m, mh)]).length) cap4] 26), (g4, cO ((p.es ++ [(1, 0, m, mh)]).flatMap evR ++ sp4) 55), (b3, aO #[iV (mC p.n p.es.length).1, iV (mC p.n p.es.length).2] 23)]⟩) (acc := []) (by kernel_rfl) (by kernel_rfl) trivial ?_
              refine run_new (aO #[iV 0, iV 0] 23) (fun b8 => pA b8) (some 19) (fun _ => by kernel_rfl) (fun b8 hb8 => ?_)
              refine run_auto [] 6 [] [0, 3] [6, 12, 16, 17, 18, 19, 20, 114] [0, 1, 2, 4, 5] (st' := ⟨[(6, .bool false), (12, pA b3), (16, pA b6), (17, iV 0), (18, pA b7), (19, pA b8), (20, iV 0), (114, .agg #[iV p.ll, iV p.lh, iV p.ul, iV p.uh, sV g4 ((p.es ++ [(1, 0, m, mh)]).length) cap4])], [(b8, aO #[iV p.n.lost.1, iV p.n.lost.2] 23), (b7, aO #[iV (max (mC p.n p.es.length).1 m), iV (min (mC p.n p.es.length).2 mh)] 23), (b6, aO #[iV (max (mC p.n p.es.length).1 m), iV (min (mC p.n p.es.length).2 mh)] 23), (g4, cO ((p.es ++ [(1, 0, m, mh)]).flatMap evR ++ sp4) 55), (b3, aO #[iV (mC p.n p.es.length).1, iV (mC p.n p.es.length).2] 23)]⟩) (acc := [(pA b5, pA b5), (pA b8, pA b8)]) (by kernel_rfl) (by kernel_rfl) ⟨rfl, rfl, trivial⟩ ?_
              refine run_ret1 16 #[.agg #[iV p.ll, iV p.lh, iV p.ul, iV p.uh, sV g4 ((p.es ++ [(1, 0, m, mh)]).length) cap4]] (some 115) (.tuple #[.agg #[iV p.n.lost.1, iV p.n.lost.2], iV 0]) (by kernel_rfl) (fun w1 k1 h1 => (by have h := Lost_any (p.add (1, 0, m, mh) (some ⟨g4, 0, none⟩) cap4) w1 (add_in (sp := sp4) (h1 (g4, cO ((p.es ++ [(1, 0, m, mh)]).flatMap evR ++ sp4) 55) (List.mem_of_getElem? (i := 3) (by kernel_rfl))) (by omega)); rw [show lostR (p.add (1, 0, m, mh) (some ⟨g4, 0, none⟩) cap4) = .inr p.n.lost from by unfold lostR; rw [add_n, hqok, show (p.n.add (1, 0, m, mh)).can = true from hqc.trans hd5, show (p.n.add (1, 0, m, mh)).lost = p.n.lost from add_lost hF rfl hal.1 hal.2]; rfl] at h; exact h)) ?_
              refine run_auto [] 3 [] [] [6, 12, 16, 17, 18, 19, 20, 116, 117] [0, 1, 2, 4] (st' := ⟨[(6, .bool false), (12, pA b3), (16, pA b6), (17, iV 0), (18, pA b7), (19, pA b8), (20, iV 0), (116, .agg #[iV p.n.lost.1, iV p.n.lost.2]), (117, iV 0)], [(b8, aO #[iV p.n.lost.1, iV p.n.lost.2] 23), (b7, aO #[iV (max (mC p.n p.es.length).1 m), iV (min (mC p.n p.es.length).2 mh)] 23), (b6, aO #[iV (max (mC p.n p.es.length).1 m), iV (min (mC p.n p.es.length).2 mh)] 23), (b3, aO #[iV (mC p.n p.es.length).1, iV (mC p.n p.es.length).2] 23)]⟩) (acc := []) (by kernel_rfl) (by kernel_rfl) trivial ?_
              refine run_new (aO #[iV 0, iV 0] 23) (fun b9 => pA b9) (some 21) (fun _ => by kernel_rfl) (fun b9 hb9 => ?_)
              refine run_auto [] 7 [] [0, 2, 4] [6, 12, 16, 17, 19, 20, 21, 22, 118, 119] [0, 1, 3, 4] (st' := ⟨[(6, .bool false), (12, pA b3), (16, pA b6), (17, iV 0), (19, pA b8), (20, iV 0), (21, pA b9), (22, iV 0), (118, .agg #[iV (max (mC p.n p.es.length).1 m), iV (min (mC p.n p.es.length).2 mh)]), (119, .agg #[iV (mC p.n p.es.length).1, iV (mC p.n p.es.length).2])], [(b9, aO #[iV p.n.lost.1, iV p.n.lost.2] 23), (b8, aO #[iV p.n.lost.1, iV p.n.lost.2] 23), (b6, aO #[iV (max (mC p.n p.es.length).1 m), iV (min (mC p.n p.es.length).2 mh)] 23), (b3, aO #[iV (mC p.n p.es.length).1, iV (mC p.n p.es.length).2] 23)]⟩) (acc := [(pA b3, pA b3), (pA b7, pA b7), (pA b9, pA b9)]) (by kernel_rfl) (by kernel_rfl) ⟨rfl, rfl, rfl, trivial⟩ ?_
              cases hd7 : ((max (mC p.n p.es.length).1 m) == (mC p.n p.es.length).1 && (min (mC p.n p.es.length).2 mh) == (mC p.n p.es.length).2) with
              | false =>
                have hshd7 := hd7
                simp only [Bool.and_eq_false_iff, beq_eq_false_iff_ne, ne_eq] at hshd7
                refine run_v ((do eqGuard .eql 23 (.tmp 118) (.tmp 119) (.agg #[iV (max (mC p.n p.es.length).1 m), iV (min (mC p.n p.es.length).2 mh)]) (.agg #[iV (mC p.n p.es.length).1, iV (mC p.n p.es.length).2]); binOp .eql 23 (.agg #[iV (max (mC p.n p.es.length).1 m), iV (min (mC p.n p.es.length).2 mh)]) (.agg #[iV (mC p.n p.es.length).1, iV (mC p.n p.es.length).2])) >>= fun v => pure (Next.value v)) (some 120) (.bool false) (by kernel_rfl) (fun w1 k1 h1 => (by have h := eq_span (.tmp 118) (.tmp 119) (max (mC p.n p.es.length).1 m) (min (mC p.n p.es.length).2 mh) (mC p.n p.es.length).1 (mC p.n p.es.length).2 w1; rw [hd7] at h; exact h)) ?_
                refine run_auto [] 27 [] [] [6] [] (st' := ⟨[(6, .bool false)], []⟩) (acc := []) (by kernel_rfl) (by kernel_rfl) trivial ?_
                refine run_end (fn := f8) rfl (Nat.le_refl _) (by kernel_rfl) [] [.bool false] (e := []) (by kernel_rfl) trivial (fun w1 k1 h1 => ?_)
                exfalso
                omega
              | true =>
                have hshd7 := hd7
                simp only [Bool.and_eq_true, beq_iff_eq] at hshd7
                refine run_v ((do eqGuard .eql 23 (.tmp 118) (.tmp 119) (.agg #[iV (max (mC p.n p.es.length).1 m), iV (min (mC p.n p.es.length).2 mh)]) (.agg #[iV (mC p.n p.es.length).1, iV (mC p.n p.es.length).2]); binOp .eql 23 (.agg #[iV (max (mC p.n p.es.length).1 m), iV (min (mC p.n p.es.length).2 mh)]) (.agg #[iV (mC p.n p.es.length).1, iV (mC p.n p.es.length).2])) >>= fun v => pure (Next.value v)) (some 120) (.bool true) (by kernel_rfl) (fun w1 k1 h1 => (by have h := eq_span (.tmp 118) (.tmp 119) (max (mC p.n p.es.length).1 m) (min (mC p.n p.es.length).2 mh) (mC p.n p.es.length).1 (mC p.n p.es.length).2 w1; rw [hd7] at h; exact h)) ?_
                refine run_auto [(123, .bool true)] 7 [] [2, 3] [6, 19, 20, 21, 22, 125, 126, 127] [0, 1] (st' := ⟨[(6, .bool false), (19, pA b8), (20, iV 0), (21, pA b9), (22, iV 0), (125, .bool true), (126, .agg #[iV (max (mC p.n p.es.length).1 m), iV (min (mC p.n p.es.length).2 mh)]), (127, .agg #[iV (mC p.n p.es.length).1, iV (mC p.n p.es.length).2])], [(b9, aO #[iV p.n.lost.1, iV p.n.lost.2] 23), (b8, aO #[iV p.n.lost.1, iV p.n.lost.2] 23)]⟩) (acc := [(pA b3, pA b3), (pA b6, pA b6), (.bool true, .bool true)]) (by kernel_rfl) (by kernel_rfl) ⟨rfl, rfl, rfl, trivial⟩ ?_
                refine run_v ((do eqGuard .eql 23 (.tmp 126) (.tmp 127) (.agg #[iV (max (mC p.n p.es.length).1 m), iV (min (mC p.n p.es.length).2 mh)]) (.agg #[iV (mC p.n p.es.length).1, iV (mC p.n p.es.length).2]); binOp .eql 23 (.agg #[iV (max (mC p.n p.es.length).1 m), iV (min (mC p.n p.es.length).2 mh)]) (.agg #[iV (mC p.n p.es.length).1, iV (mC p.n p.es.length).2])) >>= fun v => pure (Next.value v)) (some 128) (.bool true) (by kernel_rfl) (fun w1 k1 h1 => (by have h := eq_span (.tmp 126) (.tmp 127) (max (mC p.n p.es.length).1 m) (min (mC p.n p.es.length).2 mh) (mC p.n p.es.length).1 (mC p.n p.es.length).2 w1; rw [hd7] at h; exact h)) ?_
                refine run_auto [] 4 [] [1, 0] [6, 20, 22, 130, 131, 132] [] (st' := ⟨[(6, .bool false), (20, iV 0), (22, iV 0), (130, .bool true), (131, .agg #[iV p.n.lost.1, iV p.n.lost.2]), (132, .agg #[iV p.n.lost.1, iV p.n.lost.2])], []⟩) (acc := [(pA b9, pA b9), (pA b8, pA b8)]) (by kernel_rfl) (by kernel_rfl) ⟨rfl, rfl, trivial⟩ ?_
                refine run_v ((do eqGuard .eql 23 (.tmp 131) (.tmp 132) (.agg #[iV p.n.lost.1, iV p.n.lost.2]) (.agg #[iV p.n.lost.1, iV p.n.lost.2]); binOp .eql 23 (.agg #[iV p.n.lost.1, iV p.n.lost.2]) (.agg #[iV p.n.lost.1, iV p.n.lost.2])) >>= fun v => pure (Next.value v)) (some 133) (.bool true) (by kernel_rfl) (fun w1 k1 h1 => (by have h := eq_span (.tmp 131) (.tmp 132) p.n.lost.1 p.n.lost.2 p.n.lost.1 p.n.lost.2 w1; rw [show (p.n.lost.1 == p.n.lost.1 && p.n.lost.2 == p.n.lost.2) = true from by simp] at h; exact h)) ?_
                refine run_auto [(137, .bool true), (141, .bool true)] 10 [] [] [6, 143] [] (st' := ⟨[(6, .bool false), (143, .bool true)], []⟩) (acc := [(.bool true, .bool true), (.bool true, .bool true)]) (by kernel_rfl) (by kernel_rfl) ⟨rfl, rfl, trivial⟩ ?_
                refine run_ret1 13 #[] (some 144) (.bool true) (by kernel_rfl) (fun w1 k1 h1 => awake_any w1) ?_
                refine run_auto [] 3 [] [] [6] [] (st' := ⟨[(6, .bool true)], []⟩) (acc := []) (by kernel_rfl) (by kernel_rfl) trivial ?_
                refine run_end (fn := f8) rfl (Nat.le_refl _) (by kernel_rfl) [] [.bool true] (e := []) (by kernel_rfl) trivial (fun w1 k1 h1 => ?_)
                exact ⟨rfl, k1.keeps (fun _ h => h)⟩
      | true =>
        have hp3 := of_decide_eq_true hd3
        refine run_auto [(28, .bool false), (31, .bool false), (35, .bool true)] 13 [true] [] [1, 2, 3, 6, 7] [0] (st' := ⟨[(1, .int .u16 y), (2, .int .u8 z), (3, pA b1), (6, .bool false), (7, iV (p.es.length : Int))], [(b1, aO #[iV p.ll, iV p.lh, iV p.ul, iV p.uh, .slice p.ea p.es.length p.ec] 26)]⟩) (acc := [(.bool true, .bool true), (.bool (decide (8 ≤ (p.es.length : Int))), .bool true), (.bool ((p.es.length : Int) == 0), .bool false), (.bool false, .bool false)]) (by kernel_rfl) (by kernel_rfl) ⟨rfl, (bo hd3), (bo hd2), rfl, trivial⟩ ?_
        refine run_ret1 13 #[] (some 37) (.bool true) (by kernel_rfl) (fun w1 k1 h1 => awake_any w1) ?_
        refine run_auto [] 2 [] [] [1, 2, 3, 6, 7] [0] (st' := ⟨[(1, .int .u16 y), (2, .int .u8 z), (3, pA b1), (6, .bool true), (7, iV (p.es.length : Int))], [(b1, aO #[iV p.ll, iV p.lh, iV p.ul, iV p.uh, .slice p.ea p.es.length p.ec] 26)]⟩) (acc := []) (by kernel_rfl) (by kernel_rfl) trivial ?_
        refine run_end (fn := f8) rfl (Nat.le_refl _) (by kernel_rfl) [] [.bool true] (e := []) (by kernel_rfl) trivial (fun w1 k1 h1 => ?_)
        exact ⟨rfl, k1.keeps (fun _ h => h)⟩
    | true =>
      have hp2 : (p.es.length : Int) = 0 := by simpa using hd2
      refine run_auto [(28, .bool false), (31, .bool true)] 13 [true] [] [1, 2, 3, 6, 7] [0] (st' := ⟨[(1, .int .u16 y), (2, .int .u8 z), (3, pA b1), (6, .bool false), (7, iV (p.es.length : Int))], [(b1, aO #[iV p.ll, iV p.lh, iV p.ul, iV p.uh, .slice p.ea p.es.length p.ec] 26)]⟩) (acc := [(.bool true, .bool true), (.bool ((p.es.length : Int) == 0), .bool true), (.bool false, .bool false)]) (by kernel_rfl) (by kernel_rfl) ⟨rfl, (bo hd2), rfl, trivial⟩ ?_
      refine run_ret1 13 #[] (some 37) (.bool true) (by kernel_rfl) (fun w1 k1 h1 => awake_any w1) ?_
      refine run_auto [] 2 [] [] [1, 2, 3, 6, 7] [0] (st' := ⟨[(1, .int .u16 y), (2, .int .u8 z), (3, pA b1), (6, .bool true), (7, iV (p.es.length : Int))], [(b1, aO #[iV p.ll, iV p.lh, iV p.ul, iV p.uh, .slice p.ea p.es.length p.ec] 26)]⟩) (acc := []) (by kernel_rfl) (by kernel_rfl) trivial ?_
      refine run_end (fn := f8) rfl (Nat.le_refl _) (by kernel_rfl) [] [.bool true] (e := []) (by kernel_rfl) trivial (fun w1 k1 h1 => ?_)
      exact ⟨rfl, k1.keeps (fun _ h => h)⟩

end Go.Proofs.YtihoackebmnkaaaGreat
